package wire_test

import (
	"fmt"
	"math"
	"math/rand"
	"reflect"
	"slices"
	"strings"
	"sync"
	"testing"
	"unsafe"

	"chirograph/api"
	"chirograph/octet"
	"chirograph/term"
	"chirograph/wire"
)

// The terms as layer 6 writes them, put together by hand: a datum, a number, a row.
func data(s string) string { return "d" + octet.Text(s) }
func num(v int) string     { return data(octet.Num(uint64(v))) }
func row(l ...string) string {
	return "r" + octet.Num(uint64(len(l))) + strings.Join(l, "")
}

func isTerm(t string) bool { return term.Check(t) == api.OK }

// sound: t if it is a term, ErrLong if not.
func sound(t string) (string, api.Errno) {
	if !isTerm(t) {
		return "", api.ErrLong
	}
	return t, api.OK
}

// sized: a row of that many bytes, of data of up to 1,000 bytes.
func sized(t testing.TB, n int) string {
	t.Helper()
	for count := range api.MaxRow - 1 {
		for small := range 4 {
			l := slices.Repeat([]string{data(strings.Repeat("x", 1000))}, count)
			l = append(l, data(strings.Repeat("y", small)))
			head := len(row(append(l, data(""))...))
			for last := n - head - 3; last <= n-head; last++ {
				if within(last, 0, api.MaxText) {
					if s := row(append(l, data(strings.Repeat("z", last)))...); len(s) == n {
						return s
					}
				}
			}
		}
	}
	t.Fatal("no row has so many bytes:", n)
	return ""
}

// id: a transaction identifier, valid or not; member: a member, likewise.
func id(coord, epoch, seq int) api.Txn         { return api.Txn{Coord: coord, Epoch: epoch, Seq: seq} }
func member(org int, digest string) api.Member { return api.Member{Org: org, Digest: digest} }

// deep: a term of that depth.
func deep(n int) string {
	t := data("")
	for range n - 1 {
		t = row(t)
	}
	return t
}

func within(v, low, high int) bool { return low <= v && v <= high }

// okTxn, okMembers: whether they are valid, as the chapter's definitions have it.
func okTxn(t api.Txn) bool {
	return within(t.Coord, 0, 7) && within(t.Epoch, 1, 255) && within(t.Seq, 1, 65535)
}

func okMembers(t api.Txn, l []api.Member) bool {
	if !within(len(l), 1, 6) {
		return false
	}
	for i, m := range l {
		if !within(m.Org, 0, 7) || m.Org == t.Coord || !isTerm(m.Digest) {
			return false
		}
		if i > 0 && l[i-1].Org >= m.Org {
			return false
		}
	}
	return true
}

// txnTerm, membersTerm: what their terms are, if they are valid.
func txnTerm(t api.Txn) string { return row(num(t.Coord), num(t.Epoch), num(t.Seq)) }

func membersTerm(l []api.Member) string {
	var parts []string
	for _, m := range l {
		parts = append(parts, row(num(m.Org), m.Digest))
	}
	return row(parts...)
}

// table: the chapter's table of the kinds, with their words and fields.
var table = map[uint8]struct {
	word   string
	fields []string
}{
	api.MsPrepare:  {"prepare", []string{"Txn", "Auditor", "Members", "Body"}},
	api.MsVote:     {"vote", []string{"Txn", "Yes", "Tag"}},
	api.MsDecision: {"decision", []string{"Txn", "Yes"}},
	api.MsAck:      {"ack", []string{"Txn"}},
	api.MsQuery:    {"query", []string{"Txn"}},
	api.MsHello:    {"hello", nil},
}

// words: the table's words, in the order of their kinds.
var words = []string{"prepare", "vote", "decision", "ack", "query", "hello"}

// ok: whether m is valid, by the table.
func ok(m api.Msg) bool {
	line, is := table[m.Kind]
	if !is {
		return false
	}
	fields := slices.Clone(line.fields)
	if !m.Yes {
		fields = slices.DeleteFunc(fields, func(f string) bool { return f == "Tag" })
	}
	v := reflect.ValueOf(m)
	for i := range v.NumField() {
		name := v.Type().Field(i).Name
		if name == "Kind" || slices.Contains(fields, name) {
			continue
		}
		if f := v.Field(i); !(f.IsZero() || f.Kind() == reflect.Slice && f.Len() == 0) {
			return false
		}
	}
	for _, f := range fields {
		switch f {
		case "Txn":
			is = okTxn(m.Txn)
		case "Auditor":
			is = within(m.Auditor, 0, 7)
		case "Members":
			is = okMembers(m.Txn, m.Members)
		case "Body":
			is = isTerm(m.Body)
		case "Tag":
			is = isTerm(m.Tag)
		case "Yes":
			is = true
		}
		if !is {
			return false
		}
	}
	return true
}

// encode: the term of m, or why there is none.
func encode(m api.Msg) (string, api.Errno) {
	if !ok(m) {
		return "", api.ErrArg
	}
	line := table[m.Kind]
	l := []string{data(line.word)}
	for _, f := range line.fields {
		switch f {
		case "Txn":
			l = append(l, txnTerm(m.Txn))
		case "Auditor":
			l = append(l, num(m.Auditor))
		case "Members":
			l = append(l, membersTerm(m.Members))
		case "Body":
			l = append(l, m.Body)
		case "Yes":
			l = append(l, map[bool]string{false: num(0), true: num(1)}[m.Yes])
		case "Tag":
			if m.Yes {
				l = append(l, m.Tag)
			}
		}
	}
	return sound(row(l...))
}

// at: the part of t with that index, empty if there is none.
func at(t string, i int) string {
	l, _ := term.Parts(t)
	if i >= len(l) {
		return ""
	}
	return l[i]
}

// guessTxn, guessMembers: what t might be the term of, if it is that of any.
func guessTxn(t string) api.Txn {
	var n [3]int
	for i := range n {
		n[i], _ = term.ReadNum(at(t, i))
	}
	return id(n[0], n[1], n[2])
}

func guessMembers(t string) []api.Member {
	var l []api.Member
	parts, _ := term.Parts(t)
	for _, p := range parts {
		org, _ := term.ReadNum(at(p, 0))
		l = append(l, api.Member{Org: org, Digest: at(p, 1)})
	}
	return l
}

// decode: the valid message whose term is t, found by what it might be; it is that only if its term is t.
func decode(t string) (api.Msg, api.Errno) {
	word, _ := term.Text(at(t, 0))
	m := api.Msg{Kind: uint8(1 + slices.Index(words, word))}
	switch m.Kind {
	case api.MsPrepare:
		m.Auditor, _ = term.ReadNum(at(t, 2))
		m.Members = guessMembers(at(t, 3))
		m.Body = at(t, 4)
	case api.MsVote:
		m.Yes = at(t, 2) == num(1)
		m.Tag = at(t, 3)
	case api.MsDecision:
		m.Yes = at(t, 2) == num(1)
	}
	if m.Kind != api.MsHello {
		m.Txn = guessTxn(at(t, 1))
	}
	if s, e := encode(m); e != api.OK || s != t {
		return api.Msg{}, api.ErrForm
	}
	return m, api.OK
}

// same: whether two messages are the same; no members are the same as an empty list of them.
func same(a, b api.Msg) bool {
	members := slices.Equal(a.Members, b.Members)
	a.Members, b.Members = nil, nil
	return members && reflect.DeepEqual(a, b)
}

// holdTxn: what is asked of t and of its term.
func holdTxn(t testing.TB, x api.Txn) {
	t.Helper()
	want, e := "", api.ErrArg
	if okTxn(x) {
		want, e = txnTerm(x), api.OK
	}
	if got := wire.MayTxn(x); got != okTxn(x) {
		t.Fatalf("MayTxn(%v): %v", x, got)
	}
	if s, f := wire.Txn(x); s != want || f != e {
		t.Fatalf("Txn(%v): %q, %v; want %q, %v", x, s, f, want, e)
	}
	if e == api.OK {
		holdReadTxn(t, want)
	}
}

// holdReadTxn: what is asked of t, which may be the term of a transaction.
func holdReadTxn(t testing.TB, s string) {
	t.Helper()
	x := guessTxn(s)
	is := okTxn(x) && txnTerm(x) == s
	if !is {
		x = api.Txn{}
	}
	if got, ok := wire.ReadTxn(s); got != x || ok != is {
		t.Fatalf("ReadTxn(%q): %v, %v; want %v, %v", s, got, ok, x, is)
	}
}

func holdMembers(t testing.TB, x api.Txn, l []api.Member) {
	t.Helper()
	want, e := "", api.ErrArg
	if okMembers(x, l) {
		want, e = sound(membersTerm(l))
	}
	if got := wire.MayMembers(x, l...); got != okMembers(x, l) {
		t.Fatalf("MayMembers(%v, %v): %v", x, l, got)
	}
	if s, f := wire.Members(x, l...); s != want || f != e {
		t.Fatalf("Members(%v, %v): %q, %v; want %q, %v", x, l, s, f, want, e)
	}
	if e == api.OK {
		if got, ok := wire.ReadMembers(x, want); !ok || !slices.Equal(got, l) {
			t.Fatalf("ReadMembers(%v, %q): %v, %v; want %v", x, want, got, ok, l)
		}
	}
}

func holdReadMembers(t testing.TB, x api.Txn, s string) {
	t.Helper()
	l := guessMembers(s)
	is := okMembers(x, l) && membersTerm(l) == s && isTerm(s)
	if !is {
		l = nil
	}
	if got, ok := wire.ReadMembers(x, s); !slices.Equal(got, l) || ok != is {
		t.Fatalf("ReadMembers(%v, %q): %v, %v; want %v, %v", x, s, got, ok, l, is)
	}
}

// holdMsg: what is asked of m, and of its term.
func holdMsg(t testing.TB, m api.Msg) {
	t.Helper()
	e := api.OK
	if !ok(m) {
		e = api.ErrArg
	}
	if got := wire.Check(m); got != e {
		t.Fatalf("Check(%+v): %v; want %v", m, got, e)
	}
	want, e := encode(m)
	if s, f := wire.Encode(m); s != want || f != e {
		t.Fatalf("Encode(%+v): %q, %v; want %q, %v", m, s, f, want, e)
	}
	if e == api.OK {
		if got, f := wire.Decode(want); f != api.OK || !same(got, m) {
			t.Fatalf("Decode(%q): %+v, %v; want %+v", want, got, f, m)
		}
	}
}

func holdDecode(t testing.TB, s string) {
	t.Helper()
	want, e := decode(s)
	got, f := wire.Decode(s)
	if !same(got, want) || f != e {
		t.Fatalf("Decode(%q): %+v, %v; want %+v, %v", s, got, f, want, e)
	}
}

// odd: numbers at the edges of what fields may be, and far outside.
var odd = []int{math.MinInt, -1 << 32, -256, -1, 0, 1, 2, 6, 7, 8, 9, 254, 255, 256, 257, 511, 65534, 65535, 65536, 65537, 131071, 1 << 31, 1<<32 + 1, 1<<48 + 7, math.MaxInt}

// P12.1: the chapter's row of three numbers, and what is none.
func TestTxnExamples(t *testing.T) {
	s, e := wire.Txn(id(0, 1, 2))
	want := row(num(0), num(1), num(2))
	if s != want || e != api.OK {
		t.Errorf("%q, %v", s, e)
	}
	if x, ok := wire.ReadTxn(want); x != (api.Txn{Epoch: 1, Seq: 2}) || !ok {
		t.Error(x, ok)
	}
	for _, x := range []api.Txn{{}, id(0, 0, 1), id(0, 1, 0), id(8, 1, 1), id(-1, 1, 1), id(0, 256, 1), id(0, 1, 65536)} {
		if s, e := wire.Txn(x); s != "" || e != api.ErrArg || wire.MayTxn(x) {
			t.Error(x, s, e)
		}
	}
}

// P12.1: transactions with every edge in every field, and all threes of numbers as terms.
func TestTxnEdges(t *testing.T) {
	for _, c := range odd {
		for _, e := range odd {
			for _, q := range odd {
				holdTxn(t, id(c, e, q))
				if c >= 0 && e >= 0 && q >= 0 {
					holdReadTxn(t, txnTerm(id(c, e, q)))
				}
			}
		}
	}
}

// P12.1: every coordinator with every epoch, and every number in its epoch.
func TestTxnAll(t *testing.T) {
	for c := range 10 {
		for e := range 300 {
			holdTxn(t, id(c, e, 1+(c*300+e)*21))
		}
	}
	for q := range 66000 {
		holdTxn(t, id(q%8, 1+q%255, q))
	}
}

// P12.1: what is no transaction's term: other kinds of terms of the same parts, too few and too many parts, what is no number, bytes changed.
func TestReadTxnWrong(t *testing.T) {
	a, b, c := num(3), num(255), num(65535)
	atom := "a" + octet.Text("k")
	for _, s := range []string{
		"", "r", "x", a, data(""), row(), row(a), row(a, b), row(a, b, c, c), row(a, b, c, data("")), row(row(a, b, c)), row(a, row(b), c),
		"s" + a + b + c, "m" + a + b, "h" + a, "h" + row(a, b, c), row(atom, b, c), row(a, b, atom), row(data("3"), data("255"), data("65535")),
		row(a, b, c) + "x", row(a, b, c) + a, row(a, b, c)[:5], row(data(""), b, c), row(a, b, data(octet.Num(1)+"x")),
		row(num(0), num(0), num(1)), row(num(0), num(1), num(0)), row(num(8), num(1), num(1)), row(num(0), num(256), num(1)), row(num(0), num(1), num(65536)),
		row(a, b, data(octet.Num(1<<31))), row(a, b, data(octet.Num(1<<32+1))), row(data(octet.Num(1<<63)), b, c), row(data("a" + octet.Text("k"))),
	} {
		holdReadTxn(t, s)
		if x, ok := wire.ReadTxn(s); ok {
			t.Errorf("ReadTxn(%q): %v", s, x)
		}
	}
	for _, x := range []api.Txn{id(0, 1, 1), id(7, 255, 65535), id(3, 128, 256)} {
		eachChange(txnTerm(x), func(s string) { holdReadTxn(t, s) })
	}
}

// eachChange: s with each byte altered to every other value, taken out, put in, and cut off there.
func eachChange(s string, do func(string)) {
	for i := range len(s) {
		for b := range 256 {
			do(s[:i] + string([]byte{byte(b)}) + s[i+1:])
		}
		do(s[:i] + s[i+1:])
		do(s[:i] + s[i:i+1] + s[i:])
		do(s[:i])
	}
	do(s + s)
	do(s + "\x00")
}

// list: members with these numbers, each with a digest that tells its own.
func list(orgs ...int) []api.Member {
	var l []api.Member
	for _, o := range orgs {
		l = append(l, api.Member{Org: o, Digest: data(fmt.Sprint("digest ", o))})
	}
	return l
}

// P12.1: members, and what may not be.
func TestMembersExamples(t *testing.T) {
	of := id(2, 1, 1)
	want := row(row(num(0), data("digest 0")), row(num(7), data("digest 7")))
	if s, e := wire.Members(of, list(0, 7)...); s != want || e != api.OK {
		t.Errorf("%q, %v", s, e)
	}
	if l, ok := wire.ReadMembers(of, want); !ok || !slices.Equal(l, list(0, 7)) {
		t.Error(l, ok)
	}
	for _, l := range [][]api.Member{nil, {}, list(2), list(1, 1), list(1, 0), list(0, 2), list(-1), list(8), list(7, 8), list(-1, 0), {{Org: 1}}, {{Org: 1, Digest: "x"}}, {{Org: 1, Digest: data("") + "x"}}} {
		if s, e := wire.Members(of, l...); s != "" || e != api.ErrArg || wire.MayMembers(of, l...) {
			t.Error(l, s, e)
		}
	}
}

// P12.1: every set of organisations as members, of every coordinator and of what is none.
func TestMembersSets(t *testing.T) {
	for set := range 256 {
		var orgs []int
		for o := range 8 {
			if set>>o&1 == 1 {
				orgs = append(orgs, o)
			}
		}
		for c := -1; c <= 9; c++ {
			of := api.Txn{Coord: c}
			holdMembers(t, of, list(orgs...))
			if len(orgs) > 0 {
				holdReadMembers(t, of, membersTerm(list(orgs...)))
			}
		}
	}
}

// P12.1: all rows of up to four organisations, whatever their order, some of them none.
func TestMembersOrders(t *testing.T) {
	var try func(orgs []int)
	try = func(orgs []int) {
		for _, c := range []int{0, 3, 7} {
			holdMembers(t, id(c, 1, 1), list(orgs...))
			if !slices.Contains(orgs, -1) {
				holdReadMembers(t, id(c, 1, 1), membersTerm(list(orgs...)))
			}
		}
		if len(orgs) < 4 {
			for _, o := range []int{-1, 0, 1, 2, 3, 6, 7, 8} {
				try(append(slices.Clone(orgs), o))
			}
		}
	}
	try(nil)
	for _, o := range odd {
		holdMembers(t, id(3, 1, 1), list(o))
		holdMembers(t, id(o, 1, 1), list(3))
		holdMembers(t, id(o, 1, 1), list(o))
	}
}

// P12.1: six members and seven, also where no coordinator is in the way; and a million.
func TestMembersCount(t *testing.T) {
	for c := -2; c < 12; c++ {
		for from := range 3 {
			for to := from; to <= 10; to++ {
				var orgs []int
				for o := from; o < to; o++ {
					orgs = append(orgs, o)
				}
				holdMembers(t, api.Txn{Coord: c}, list(orgs...))
				holdReadMembers(t, api.Txn{Coord: c}, membersTerm(list(orgs...)))
			}
		}
	}
	if wire.MayMembers(api.Txn{}, make([]api.Member, 1<<20)...) {
		t.Error("a million members")
	}
}

// P12.1: only the coordinator counts, whatever epoch and number stand beside it.
func TestMembersOnlyCoord(t *testing.T) {
	for _, x := range []api.Txn{id(3, 0, 0), id(3, -1, 1<<40), id(3, 256, 65536), id(99, 0, 0), id(-1, -1, -1)} {
		holdMembers(t, x, list(0, 4))
		holdMembers(t, x, list(3))
		holdReadMembers(t, x, membersTerm(list(0, 4)))
		holdReadMembers(t, x, membersTerm(list(3)))
		if !wire.MayMembers(x, list(0, 4)...) || wire.MayMembers(x, list(3)...) != (x.Coord != 3) {
			t.Error(x)
		}
	}
}

// P12.1: digests that are none, first or last among members; they count ahead of a term that would be too long.
func TestMembersDigests(t *testing.T) {
	of := id(2, 1, 1)
	digests := []string{"", "x", "d", data(""), data("x"), data("x") + "y", row(), deep(14), deep(15), deep(16), deep(17), sized(t, api.MaxTerm), sized(t, api.MaxTerm/2),
		"a" + octet.Text("k"), "a" + octet.Text("K"), "h" + data("x"), data(strings.Repeat("x", 1024)), data(strings.Repeat("x", 1025)), strings.Repeat("x", 1<<20)}
	for _, a := range digests {
		holdMembers(t, of, []api.Member{member(1, a)})
		holdReadMembers(t, of, membersTerm([]api.Member{member(1, a)}))
		for _, b := range digests {
			holdMembers(t, of, []api.Member{member(1, a), member(3, b)})
			holdMembers(t, of, []api.Member{member(1, a), member(2, b)})
			holdReadMembers(t, of, membersTerm([]api.Member{member(1, a), member(3, b)}))
		}
	}
	if _, e := wire.Members(of, api.Member{Org: 1, Digest: sized(t, api.MaxTerm)}, api.Member{Org: 1, Digest: data("")}); e != api.ErrArg {
		t.Error(e)
	}
}

// P12.1: the term of members is as long as a term may be, or a byte longer; as deep, or one deeper.
func TestMembersLimits(t *testing.T) {
	of := id(2, 1, 1)
	for _, orgs := range [][]int{{0}, {0, 7}, {0, 1, 3, 4, 5, 6}} {
		l := list(orgs...)
		rest := len(membersTerm(l)) - len(l[0].Digest)
		for more := -3; more <= 3; more++ {
			l[0].Digest = sized(t, api.MaxTerm-rest+more)
			holdMembers(t, of, l)
			holdReadMembers(t, of, membersTerm(l))
			if _, e := wire.Members(of, l...); (e == api.OK) != (more <= 0) || (e == api.ErrLong) != (more > 0) {
				t.Error(orgs, more, e)
			}
		}
		for at := range l {
			for depth, want := range map[int]api.Errno{13: api.OK, 14: api.OK, 15: api.ErrLong, 16: api.ErrLong, 17: api.ErrArg} {
				l := list(orgs...)
				l[at].Digest = deep(depth)
				holdMembers(t, of, l)
				if _, e := wire.Members(of, l...); e != want {
					t.Error(orgs, at, depth, e)
				}
			}
		}
	}
}

// P12.1: what is no members' term.
func TestReadMembersWrong(t *testing.T) {
	of := id(2, 1, 1)
	one := row(num(1), data("x"))
	for _, s := range []string{
		"", "x", "r", data(""), row(), one, row(row()), row(row(num(1))), row(row(num(1), data("x"), data("x"))), row(row(data("x"), num(1))), row(one, one), row(one, num(3)),
		row(row(row(num(1)), data("x"))), row(row(data("1"), data("x"))), row("m" + num(1) + data("x")), "h" + one, "m" + one + row(num(3), data("x")), "s" + one + row(num(3), data("x")) + row(num(4), data("x")),
		row(one, "m"+num(3)+data("x")), row(one) + "x", row(one)[:4], row(row(data(octet.Num(1<<31)), data("x"))), row(row(num(1), "a"+octet.Text("K"))), row(row(num(2), data("x"))), row(row(num(8), data("x"))),
		row("a"+octet.Text("k"), one), row(slices.Repeat([]string{one}, 32)...), row(row(row(num(1), data("x")))),
	} {
		holdReadMembers(t, of, s)
		if l, ok := wire.ReadMembers(of, s); ok {
			t.Errorf("ReadMembers(%q): %v", s, l)
		}
	}
	for _, l := range [][]api.Member{list(0), list(1, 5), {member(0, row(num(1), data(""))), member(1, "h"+data("")), member(7, row())}} {
		eachChange(membersTerm(l), func(s string) { holdReadMembers(t, of, s) })
	}
}

// P12.2: the chapter's examples.
func TestExamples(t *testing.T) {
	if s, e := wire.Encode(api.Msg{Kind: api.MsHello}); s != "r"+octet.Num(1)+"d"+octet.Num(5)+"hello" || e != api.OK {
		t.Errorf("hello: %q, %v", s, e)
	}
	s, e := wire.Encode(api.Msg{Kind: api.MsAck, Txn: id(0, 1, 2)})
	if s != row(data("ack"), row(num(0), num(1), num(2))) || e != api.OK {
		t.Errorf("ack: %q, %v", s, e)
	}
	m := api.Msg{Kind: api.MsVote, Txn: id(0, 1, 2), Tag: data("x")}
	if s, e := wire.Encode(m); s != "" || e != api.ErrArg || wire.Check(m) != api.ErrArg {
		t.Errorf("vote: %q, %v", s, e)
	}
}

// P12.2: one message of each kind, and its term in full.
func TestKinds(t *testing.T) {
	x := id(7, 255, 65535)
	named := row(num(7), num(255), num(65535))
	for _, c := range []struct {
		m    api.Msg
		term string
	}{
		{api.Msg{Kind: 1, Txn: x, Auditor: 5, Members: []api.Member{member(0, data("a")), member(6, data("b"))}, Body: data("body")},
			row(data("prepare"), named, num(5), row(row(num(0), data("a")), row(num(6), data("b"))), data("body"))},
		{api.Msg{Kind: 2, Txn: x}, row(data("vote"), named, num(0))},
		{api.Msg{Kind: 2, Txn: x, Yes: true, Tag: data("tag")}, row(data("vote"), named, num(1), data("tag"))},
		{api.Msg{Kind: 3, Txn: x}, row(data("decision"), named, num(0))},
		{api.Msg{Kind: 3, Txn: x, Yes: true}, row(data("decision"), named, num(1))},
		{api.Msg{Kind: 4, Txn: x}, row(data("ack"), named)},
		{api.Msg{Kind: 5, Txn: x}, row(data("query"), named)},
		{api.Msg{Kind: 6}, row(data("hello"))},
	} {
		if e := wire.Check(c.m); e != api.OK {
			t.Error(c.m, e)
		}
		if s, e := wire.Encode(c.m); s != c.term || e != api.OK {
			t.Errorf("%v: %q, %v", c.m, s, e)
		}
		if m, e := wire.Decode(c.term); !same(m, c.m) || e != api.OK {
			t.Errorf("%v: %v, %v", c.m, m, e)
		}
	}
}

// P12.2: Word, of every number.
func TestWord(t *testing.T) {
	for k := range 256 {
		want := ""
		if within(k, 1, 6) {
			want = words[k-1]
		}
		if got := wire.Word(uint8(k)); got != want {
			t.Error(k, got)
		}
	}
}

// everyMsg: messages with each of some values, valid or not, in each field.
func everyMsg(do func(api.Msg)) {
	good := id(3, 1, 1)
	for _, kind := range []uint8{0, 1, 2, 3, 4, 5, 6, 7, 8, 255} {
		for _, x := range []api.Txn{{}, good, id(0, 255, 65535), id(8, 1, 1), id(3, 0, 1), id(3, 1, 65536), id(3, 0, 0), id(0, 1, 0), id(0, 0, 1)} {
			for _, auditor := range []int{0, 1, 3, 7, 8, -1} {
				for _, members := range [][]api.Member{nil, {}, list(0), list(1, 7), list(3), list(2, 1), {{Org: 1}}, list(8)} {
					for _, body := range []string{"", data("body"), "x"} {
						for _, tag := range []string{"", data("tag"), "x"} {
							for _, yes := range []bool{false, true} {
								do(api.Msg{Kind: kind, Txn: x, Auditor: auditor, Members: members, Body: body, Yes: yes, Tag: tag})
							}
						}
					}
				}
			}
		}
	}
}

// P12.2, P12.3: messages with each of many values in each field; those that are valid have terms of their own.
func TestEveryMsg(t *testing.T) {
	had := map[string]api.Msg{}
	everyMsg(func(m api.Msg) {
		holdMsg(t, m)
		s, e := wire.Encode(m)
		if e != api.OK {
			return
		}
		if other, ok := had[s]; ok && !same(other, m) {
			t.Fatalf("%+v and %+v have the term %q", other, m, s)
		}
		had[s] = m
	})
	// Prepares of two transactions, with four auditors and two rows of members each; votes and decisions, yes and no; acks, queries; a hello.
	if want := 2*4*2 + 2*2 + 2*2 + 2 + 2 + 1; len(had) != want {
		t.Error(len(had), want)
	}
}

// P12.2: every kind's number, each field alone at its edges.
func TestFieldEdges(t *testing.T) {
	x := id(1, 2, 3)
	for k := range 256 {
		holdMsg(t, api.Msg{Kind: uint8(k)})
		holdMsg(t, api.Msg{Kind: uint8(k), Txn: x})
		holdMsg(t, api.Msg{Kind: uint8(k), Txn: x, Yes: true})
		holdMsg(t, api.Msg{Kind: uint8(k), Txn: x, Yes: true, Tag: data("")})
		holdMsg(t, api.Msg{Kind: uint8(k), Txn: x, Members: list(0), Body: data("")})
	}
	for _, v := range odd {
		holdMsg(t, api.Msg{Kind: api.MsPrepare, Txn: x, Auditor: v, Members: list(0), Body: data("")})
		for _, kind := range []uint8{1, 2, 3, 4, 5, 6} {
			for i := range 3 {
				m := api.Msg{Kind: kind, Txn: x}
				*[3]*int{&m.Txn.Coord, &m.Txn.Epoch, &m.Txn.Seq}[i] = v
				holdMsg(t, m)
				m.Yes, m.Tag = true, data("")
				holdMsg(t, m)
				m.Members, m.Body, m.Yes, m.Tag = list(0), data(""), false, ""
				holdMsg(t, m)
				m = api.Msg{Kind: kind}
				*[3]*int{&m.Txn.Coord, &m.Txn.Epoch, &m.Txn.Seq}[i] = v
				holdMsg(t, m)
			}
		}
	}
	for auditor := range 8 {
		for coord := range 8 {
			x.Coord = coord
			holdMsg(t, api.Msg{Kind: api.MsPrepare, Txn: x, Auditor: auditor, Members: list(coord ^ 1), Body: data("")})
		}
	}
}

// P12.2: a message whose term is as long as a term may be, or a byte longer; as deep, or one deeper; what is not valid comes ahead of that.
func TestEncodeLimits(t *testing.T) {
	x := id(1, 2, 3)
	for what, set := range map[string]func(m *api.Msg, s string){
		"tag":    func(m *api.Msg, s string) { *m = api.Msg{Kind: api.MsVote, Txn: x, Yes: true, Tag: s} },
		"body":   func(m *api.Msg, s string) { m.Body = s },
		"digest": func(m *api.Msg, s string) { m.Members[1].Digest = s },
	} {
		m := api.Msg{Kind: api.MsPrepare, Txn: x, Members: list(0, 5), Body: data("body")}
		empty := row()
		set(&m, empty)
		s, _ := encode(m)
		rest := len(s) - len(empty)
		for more := -3; more <= 3; more++ {
			set(&m, sized(t, api.MaxTerm-rest+more))
			holdMsg(t, m)
			if e := wire.Check(m); e != api.OK {
				t.Error(what, more, e)
			}
			if _, e := wire.Encode(m); (e == api.OK) != (more <= 0) || (e == api.ErrLong) != (more > 0) {
				t.Error(what, more, e)
			}
		}
		set(&m, sized(t, api.MaxTerm))
		holdMsg(t, m)
		over := 1
		if what == "digest" {
			over = 3
		}
		for depth := 10; depth <= 18; depth++ {
			set(&m, deep(depth))
			holdMsg(t, m)
			want := api.OK
			if depth+over > 16 {
				want = api.ErrLong
			}
			if depth > 16 {
				want = api.ErrArg
			}
			if _, e := wire.Encode(m); e != want {
				t.Error(what, depth, e)
			}
			m.Auditor = 8
			if _, e := wire.Encode(m); e != api.ErrArg {
				t.Error(what, depth, e)
			}
			m.Auditor = 0
		}
	}
}

// pool: terms that may stand in messages, or be taken for one another.
func pool() []string {
	x := id(3, 1, 1)
	return []string{txnTerm(x), txnTerm(id(1, 1, 1)), row(num(8), num(1), num(1)), num(0), num(1), num(2), num(7), num(8), membersTerm(list(1)), membersTerm(list(3, 5)), data("vote"), row()}
}

// P12.2: rows of all of up to four parts of a pool behind each word, and behind what is none.
func TestDecodeRows(t *testing.T) {
	heads := []string{data(""), data("Vote"), data("votes"), "a" + octet.Text("ack"), row(data("ack")), "h" + data("hello"), num(1)}
	for _, w := range words {
		heads = append(heads, data(w))
	}
	parts := pool()
	good := 0
	var try func(l []string)
	try = func(l []string) {
		s := row(l...)
		holdDecode(t, s)
		if _, e := wire.Decode(s); e == api.OK {
			good++
		}
		if len(l) <= 4 {
			for _, p := range parts {
				if len(l) < 4 || l[0] == data("prepare") || p == parts[3] || p == parts[4] {
					try(append(slices.Clone(l), p))
				}
			}
		}
	}
	for _, h := range heads {
		try([]string{h})
	}
	// Two transactions; votes: no, or yes with twelve tags; decisions; acks and queries; a hello; prepares with five auditors' numbers below 8, the members that may be, and twelve bodies.
	if want := 2*13 + 2*2 + 2 + 2 + 1 + 2*4*12; good != want {
		t.Error(good, want)
	}
}

// P12.2: what is no message's term, though nearly.
func TestDecodeWrong(t *testing.T) {
	id := row(num(3), num(1), num(1))
	for _, s := range []string{
		"", "x", "r", "d", row(), data("hello"), row(data("hello"), row()), row(row(data("hello"))), row(data("hello")) + "x", row(data("hello"))[:6], "h" + data("hello"), "m" + data("ack") + id,
		"m" + data("query") + id, "s" + data("vote") + id + num(0), "s" + data("decision") + id + num(1), row("a" + octet.Text("hello")), row("a"+octet.Text("ack"), id), row(data("")), row(data(""), id),
		row(id, data("ack")), row(data("ack")), row(data("ack"), id, id), row(data("ack"), num(1)), row(data("vote"), id), row(data("vote"), id, num(0), data("")), row(data("vote"), id, num(1)),
		row(data("vote"), id, num(2), data("")), row(data("vote"), id, num(2)), row(data("vote"), id, num(1), data(""), data("")), row(data("vote"), id, data(""), data("")), row(data("vote"), id, data("1"), data("")),
		row(data("decision"), id), row(data("decision"), id, num(2)), row(data("decision"), id, num(255)), row(data("decision"), id, num(256)), row(data("decision"), id, num(257)), row(data("decision"), id, num(1), num(1)), row(data("decision"), id, "a"+octet.Text("1")),
		row(data("prepare"), id), row(data("prepare"), id, num(0), membersTerm(list(1))), row(data("prepare"), id, num(8), membersTerm(list(1)), data("")), row(data("prepare"), id, num(0), membersTerm(list(3)), data("")),
		row(data("prepare"), id, num(0), row(), data("")), row(data("prepare"), id, num(0), membersTerm(list(1)), data(""), data("")), row(data("prepare"), id, membersTerm(list(1)), num(0), data("")), row(data("prepare"), num(0), id, membersTerm(list(1)), data("")),
		row(data("ack"), row(num(3), num(0), num(1))), row(data("ack"), row(num(3), num(1), num(65536))), row(data("query"), row(num(3), num(1))), row(data("query"), "s"+num(3)+num(1)+num(1)),
		strings.Repeat("r\x01", 1<<20), strings.Repeat("x", 1<<20),
	} {
		holdDecode(t, s)
		if m, e := wire.Decode(s); e != api.ErrForm || !same(m, api.Msg{}) {
			t.Errorf("Decode(%q): %v, %v", s, m, e)
		}
	}
}

// P12.2: terms of messages with each byte altered, taken out or put in.
func TestDecodeChanged(t *testing.T) {
	x := id(3, 200, 300)
	for _, m := range []api.Msg{
		{Kind: api.MsPrepare, Txn: x, Auditor: 1, Members: list(1, 7), Body: row(data("b"), "a"+octet.Text("k"))},
		{Kind: api.MsVote, Txn: x, Yes: true, Tag: "h" + data("")},
		{Kind: api.MsVote, Txn: x},
		{Kind: api.MsDecision, Txn: x, Yes: true},
		{Kind: api.MsAck, Txn: x},
		{Kind: api.MsQuery, Txn: x},
		{Kind: api.MsHello},
	} {
		s, e := encode(m)
		if e != api.OK {
			t.Fatal(m, e)
		}
		eachChange(s, func(s string) { holdDecode(t, s) })
	}
}

// anyTerm: a term, by chance.
func anyTerm(r *rand.Rand, depth int) string {
	switch r.Intn(7 + depth) {
	case 0:
		return "a" + octet.Text([]string{"k", "k/0/1", "s/1/2"}[r.Intn(3)])
	case 1:
		return num(r.Intn(10))
	case 2:
		return data(words[r.Intn(6)])
	case 3:
		return "h" + anyTerm(r, depth+1)
	case 4:
		return "m" + anyTerm(r, depth+1) + anyTerm(r, depth+1)
	case 5:
		var l []string
		for range r.Intn(5) {
			l = append(l, anyTerm(r, depth+1))
		}
		return row(l...)
	}
	return data("x")
}

// anyMsg: a message, by chance, most often a valid one.
func anyMsg(r *rand.Rand) api.Msg {
	m := api.Msg{Kind: uint8(1 + r.Intn(6))}
	if m.Kind != api.MsHello {
		m.Txn = id(r.Intn(8), 1+r.Intn(255), 1+r.Intn(65535))
	}
	switch m.Kind {
	case api.MsPrepare:
		m.Auditor = r.Intn(8)
		m.Body = anyTerm(r, 1)
		for o := range 8 {
			if o != m.Txn.Coord && r.Intn(3) == 0 {
				m.Members = append(m.Members, api.Member{Org: o, Digest: anyTerm(r, 3)})
			}
		}
	case api.MsVote:
		m.Yes = r.Intn(2) == 0
		if m.Yes {
			m.Tag = anyTerm(r, 1)
		}
	case api.MsDecision:
		m.Yes = r.Intn(2) == 0
	}
	return m
}

// P12.2, P12.3: messages by chance, and their terms with parts changed by chance; what Decode takes, Encode gives back.
func TestAny(t *testing.T) {
	r := rand.New(rand.NewSource(12))
	for range 20000 {
		m := anyMsg(r)
		holdMsg(t, m)
		s, e := wire.Encode(m)
		if e != api.OK {
			continue
		}
		subs := term.Subs(s)
		for range 5 {
			changed, _ := term.Swap(s, subs[r.Intn(len(subs))], anyTerm(r, 3))
			holdDecode(t, changed)
			if m, e := wire.Decode(changed); e == api.OK {
				if back, e := wire.Encode(m); e != api.OK || back != changed {
					t.Fatalf("%q, %v; want %q", back, e, changed)
				}
			}
		}
		cut := r.Intn(len(s))
		holdDecode(t, s[:cut]+string([]byte{byte(r.Intn(256))})+s[cut+1:])
	}
}

// shares: whether the bytes of a lie in those of b.
func shares(a, b string) bool {
	if a == "" || b == "" {
		return false
	}
	p, q := uintptr(unsafe.Pointer(unsafe.StringData(a))), uintptr(unsafe.Pointer(unsafe.StringData(b)))
	return p < q+uintptr(len(b)) && q < p+uintptr(len(a))
}

// P12.1, P12.2 (R5): results are new memory, and arguments stay as they are.
func TestMemory(t *testing.T) {
	of := id(3, 1, 1)
	l := list(0, 7)
	m := api.Msg{Kind: api.MsPrepare, Txn: of, Members: l, Body: data("body")}
	s, _ := wire.Encode(m)
	terms, _ := wire.Members(of, l...)
	for _, x := range l {
		if shares(s, x.Digest) || shares(terms, x.Digest) {
			t.Error("a term shares memory with a digest")
		}
	}
	if shares(s, m.Body) || !slices.Equal(l, list(0, 7)) {
		t.Error("the argument is kept, or changed")
	}
	a, _ := wire.Decode(s)
	b, _ := wire.Decode(s)
	c, _ := wire.ReadMembers(of, terms)
	for i := range a.Members {
		if shares(a.Members[i].Digest, s) || shares(c[i].Digest, terms) {
			t.Error("a digest shares memory with the term")
		}
	}
	if shares(a.Body, s) {
		t.Error("a body shares memory with the term")
	}
	a.Members[0] = api.Member{}
	if !slices.Equal(b.Members, l) || !slices.Equal(c, l) {
		t.Error("two results share a list")
	}
	vote, _ := wire.Encode(api.Msg{Kind: api.MsVote, Txn: of, Yes: true, Tag: m.Body})
	if d, _ := wire.Decode(vote); shares(d.Tag, vote) || shares(vote, m.Body) {
		t.Error("a tag shares memory with the term")
	}
}

// P12.1, P12.2 (R6): the same answers again, and at the same time.
func TestAgain(t *testing.T) {
	r := rand.New(rand.NewSource(6))
	var msgs []api.Msg
	for range 200 {
		msgs = append(msgs, anyMsg(r))
	}
	var wg sync.WaitGroup
	for range 8 {
		wg.Add(1)
		go func() {
			defer wg.Done()
			for _, m := range msgs {
				want, e := encode(m)
				s, f := wire.Encode(m)
				if s != want || e != f {
					t.Errorf("%+v: %q, %v", m, s, f)
				}
				back, _ := wire.Decode(s)
				if e == api.OK && !same(back, m) {
					t.Errorf("%+v: %+v", m, back)
				}
			}
		}()
	}
	wg.Wait()
}
