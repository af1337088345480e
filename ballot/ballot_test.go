package ballot_test

import (
	"crypto/hmac"
	"crypto/sha256"
	"fmt"
	"math"
	"math/rand"
	"slices"
	"strings"
	"sync"
	"testing"
	"unsafe"

	"chirograph/api"
	"chirograph/ballot"
	"chirograph/know"
	"chirograph/octet"
	"chirograph/suite"
	"chirograph/term"
)

// The terms as layer 6 writes them, put together by hand: a datum, a number, an atom, a row.
func data(s string) string { return "d" + octet.Text(s) }
func num(v int) string     { return data(octet.Num(uint64(v))) }
func atom(s string) string { return "a" + octet.Text(s) }
func row(l ...string) string {
	return "r" + octet.Num(uint64(len(l))) + strings.Join(l, "")
}

func isTerm(t string) bool { return term.Check(t) == api.OK }

func within(v, low, high int) bool { return low <= v && v <= high }

// sound: t if it is a term, ErrLong if not.
func sound(t string) (string, api.Errno) {
	if !isTerm(t) {
		return "", api.ErrLong
	}
	return t, api.OK
}

// deep: a term of that depth.
func deep(n int) string {
	t := data("")
	for range n - 1 {
		t = row(t)
	}
	return t
}

// sized: a row of that many bytes, of data of up to 1,000 bytes.
func sized(t testing.TB, n int) string {
	t.Helper()
	for count := range api.MaxRow - 1 {
		for small := range 4 {
			l := slices.Repeat([]string{data(strings.Repeat("x", 1000))}, count)
			l = append(l, data(strings.Repeat("y", small)))
			head := len(row(append(l, data(""))...))
			for last := n - head - 3; last <= n-head; last++ {
				if within(last, 0, api.MaxText) {
					if s := row(append(l, data(strings.Repeat("z", last)))...); len(s) == n {
						return s
					}
				}
			}
		}
	}
	t.Fatal("no row has so many bytes:", n)
	return ""
}

func id(coord, epoch, seq int) api.Txn         { return api.Txn{Coord: coord, Epoch: epoch, Seq: seq} }
func member(org int, digest string) api.Member { return api.Member{Org: org, Digest: digest} }

// list: members with these numbers, each with a digest that tells its own.
func list(orgs ...int) []api.Member {
	var l []api.Member
	for _, o := range orgs {
		l = append(l, member(o, data(fmt.Sprint("digest ", o))))
	}
	return l
}

// valid: whether b is, as the chapter's definitions have it, and those of layer 12.
func valid(b api.Ballot) bool {
	if !within(b.Txn.Coord, 0, 7) || !within(b.Txn.Epoch, 1, 255) || !within(b.Txn.Seq, 1, 65535) || !within(b.Auditor, 0, 7) || !within(len(b.Members), 1, 6) {
		return false
	}
	own := 0
	for i, m := range b.Members {
		if !within(m.Org, 0, 7) || m.Org == b.Txn.Coord || !isTerm(m.Digest) || i > 0 && b.Members[i-1].Org >= m.Org {
			return false
		}
		if m.Org == b.Org {
			own++
		}
	}
	return own == 1
}

// written: what the body of b would be, a term or not; no number in b is below 0.
func written(b api.Ballot) string {
	var l []string
	for _, m := range b.Members {
		l = append(l, row(num(m.Org), m.Digest))
	}
	return row(data("ballot"), row(num(b.Txn.Coord), num(b.Txn.Epoch), num(b.Txn.Seq)), num(b.Auditor), row(l...), num(b.Org))
}

// body: the body of b, or why there is none.
func body(b api.Ballot) (string, api.Errno) {
	if !valid(b) {
		return "", api.ErrArg
	}
	return sound(written(b))
}

// keyName: the name of the key for tags of Org and Auditor.
func keyName(b api.Ballot) string {
	return fmt.Sprintf("k/%d/%d", min(b.Org, b.Auditor), max(b.Org, b.Auditor))
}

// sum: HMAC-SHA256, by the library.
func sum(key, s string) string {
	h := hmac.New(sha256.New, []byte(key))
	h.Write([]byte(s))
	return string(h.Sum(nil))
}

// kit: a suite, and what its master is (empty in one of terms).
type kit struct {
	s      *suite.Suite
	master string
}

// tag: the tag of b in k, or why there is none.
func tag(k kit, b api.Ballot) (string, api.Errno) {
	if k.s == nil {
		return "", api.ErrNil
	}
	t, e := body(b)
	if e != api.OK {
		return "", e
	}
	if k.master == "" {
		return sound("m" + atom(keyName(b)) + t)
	}
	return sound(data(sum(sum(k.master, "key "+keyName(b)), t)))
}

// kits: a suite of terms, two of bytes, and none.
func kits(t testing.TB) []kit {
	t.Helper()
	l := []kit{{}}
	for _, master := range []string{"", "m", strings.Repeat("master ", 9)} {
		kind := uint8(api.SuBytes)
		if master == "" {
			kind = api.SuTerms
		}
		s, e := suite.New(kind, master)
		if e != api.OK {
			t.Fatal(e)
		}
		l = append(l, kit{s, master})
	}
	return l
}

// same: whether two ballots are the same; no members are the same as an empty list of them.
func same(a, b api.Ballot) bool {
	return a.Txn == b.Txn && a.Auditor == b.Auditor && slices.Equal(a.Members, b.Members) && a.Org == b.Org
}

// hold: what is asked of b, and of its body.
func hold(t testing.TB, b api.Ballot) {
	t.Helper()
	e := api.OK
	if !valid(b) {
		e = api.ErrArg
	}
	if got := ballot.Check(b); got != e {
		t.Fatalf("Check(%v): %v; want %v", b, got, e)
	}
	digest := ""
	if valid(b) {
		digest = b.Members[slices.IndexFunc(b.Members, func(m api.Member) bool { return m.Org == b.Org })].Digest
	}
	if d, is := ballot.Digest(b); d != digest || is != valid(b) {
		t.Fatalf("Digest(%v): %q, %v; want %q, %v", b, d, is, digest, valid(b))
	}
	want, e := body(b)
	if s, f := ballot.Body(b); s != want || f != e {
		t.Fatalf("Body(%v): %q, %v; want %q, %v", b, s, f, want, e)
	}
	if e == api.OK {
		if got, is := ballot.Read(want); !is || !same(got, b) {
			t.Fatalf("Read(%q): %v, %v; want %v", want, got, is, b)
		}
	}
}

// holdTag: what is asked of b's tag in k.
func holdTag(t testing.TB, k kit, b api.Ballot) {
	t.Helper()
	want, e := tag(k, b)
	if s, f := ballot.Tag(k.s, b); s != want || f != e {
		t.Fatalf("Tag(%v, %v): %q, %v; want %q, %v", k.master, b, s, f, want, e)
	}
	if got := ballot.Fits(k.s, b, want); got != (e == api.OK) {
		t.Fatalf("Fits(%v, %v, %q): %v; want %v", k.master, b, want, got, e == api.OK)
	}
}

// at: the part of t with that index, empty if there is none.
func at(t string, i int) string {
	l, _ := term.Parts(t)
	if i >= len(l) {
		return ""
	}
	return l[i]
}

// guess: what t might be the body of, if it is that of any.
func guess(t string) api.Ballot {
	number := func(t string) int { v, _ := term.ReadNum(t); return v }
	x := at(t, 1)
	b := api.Ballot{Txn: id(number(at(x, 0)), number(at(x, 1)), number(at(x, 2))), Auditor: number(at(t, 2)), Org: number(at(t, 4))}
	l, _ := term.Parts(at(t, 3))
	for _, m := range l {
		b.Members = append(b.Members, member(number(at(m, 0)), at(m, 1)))
	}
	return b
}

// holdRead: what is asked of t, which may be a body.
func holdRead(t testing.TB, s string) {
	t.Helper()
	want := guess(s)
	own, e := body(want)
	is := e == api.OK && own == s
	if !is {
		want = api.Ballot{}
	}
	if got, ok := ballot.Read(s); ok != is || !same(got, want) {
		t.Fatalf("Read(%q): %v, %v; want %v, %v", s, got, ok, want, is)
	}
}

// odd: numbers at the edges of what fields may be, and far outside.
var odd = []int{math.MinInt, -1 << 32, -256, -1, 0, 1, 2, 3, 5, 6, 7, 8, 9, 15, 254, 255, 256, 257, 65535, 65536, 65537, 131071, 1 << 31, 1<<32 + 1, 1<<48 + 3, math.MaxInt}

// example: the chapter's.
func example() api.Ballot {
	return api.Ballot{Txn: id(0, 1, 1), Auditor: 3, Members: []api.Member{member(1, data(""))}, Org: 1}
}

// three: a ballot of one of three members.
func three(org int) api.Ballot {
	return api.Ballot{Txn: id(2, 255, 65535), Auditor: 5, Members: list(0, 3, 7), Org: org}
}

// P13.1: the chapter's example, byte by byte.
func TestExample(t *testing.T) {
	b := example()
	want := "r\x05" + "d\x06ballot" + "r\x03d\x01\x00d\x01\x01d\x01\x01" + "d\x01\x03" + "r\x01r\x02d\x01\x01d\x00" + "d\x01\x01"
	for old, of := range map[string]string{"\x00": octet.Num(0), "\x01": octet.Num(1), "\x03": octet.Num(3), "\x05": octet.Num(5), "\x06": octet.Num(6)} {
		if old != of {
			t.Fatalf("layer 1 has %q for %q", of, old)
		}
	}
	if s, e := ballot.Body(b); s != want || e != api.OK {
		t.Errorf("%q, %v", s, e)
	}
	if got, is := ballot.Read(want); !is || !same(got, b) {
		t.Error(got, is)
	}
	if d, is := ballot.Digest(b); d != data("") || !is {
		t.Errorf("%q, %v", d, is)
	}
	if e := ballot.Check(b); e != api.OK {
		t.Error(e)
	}
	b.Org = 2
	if e := ballot.Check(b); e != api.ErrArg {
		t.Error(e)
	}
	if s, e := ballot.Body(b); s != "" || e != api.ErrArg {
		t.Errorf("%q, %v", s, e)
	}
	if d, is := ballot.Digest(b); d != "" || is {
		t.Errorf("%q, %v", d, is)
	}
	for _, k := range kits(t)[1:] {
		if s, e := ballot.Tag(k.s, b); s != "" || e != api.ErrArg {
			t.Errorf("%q, %v", s, e)
		}
	}
}

// P13.1: each of three members has a ballot of its own, with its own digest; nobody else has one.
func TestThree(t *testing.T) {
	for org := -1; org < 10; org++ {
		b := three(org)
		hold(t, b)
		d, is := ballot.Digest(b)
		if is != (org == 0 || org == 3 || org == 7) || is && d != data(fmt.Sprint("digest ", org)) {
			t.Errorf("%v: %q, %v", org, d, is)
		}
	}
}

// P13.1: every edge in each field, and in each two of them.
func TestEdges(t *testing.T) {
	fields := func(b *api.Ballot) []*int {
		return []*int{&b.Txn.Coord, &b.Txn.Epoch, &b.Txn.Seq, &b.Auditor, &b.Org, &b.Members[0].Org, &b.Members[2].Org}
	}
	for i := range fields(&api.Ballot{Members: list(0, 3, 7)}) {
		for j := range i + 1 {
			for _, v := range odd {
				for _, w := range odd {
					b := three(3)
					*fields(&b)[i] = v
					*fields(&b)[j] = w
					hold(t, b)
				}
			}
		}
	}
	for _, v := range odd {
		b := example()
		b.Org, b.Members[0].Org = v, v
		hold(t, b)
		b.Txn.Coord = v
		hold(t, b)
		b.Members = nil
		hold(t, b)
	}
	hold(t, api.Ballot{})
	hold(t, api.Ballot{Members: []api.Member{}})
}

// P13.1: every epoch, every number in it, and every auditor, with bodies that are read back.
func TestAll(t *testing.T) {
	for epoch := range 300 {
		b := three(0)
		b.Txn.Epoch = epoch
		hold(t, b)
	}
	for seq := range 66000 {
		b := three(7)
		b.Txn.Seq = seq
		if seq%13 == 0 || !within(seq, 300, 65000) {
			hold(t, b)
		}
	}
	for auditor := range 300 {
		b := three(3)
		b.Auditor = auditor
		hold(t, b)
		holdRead(t, written(b))
	}
}

// orgsOf: the organisations in a set.
func orgsOf(set int) []int {
	var l []int
	for o := range 8 {
		if set>>o&1 == 1 {
			l = append(l, o)
		}
	}
	return l
}

// P13.1: every set of organisations as members, of every coordinator, each of them as the one that votes.
func TestSets(t *testing.T) {
	for set := range 256 {
		for coord := range 9 {
			for org := -1; org < 9; org++ {
				b := api.Ballot{Txn: id(coord, 1, 1), Auditor: set % 8, Members: list(orgsOf(set)...), Org: org}
				hold(t, b)
				if org >= 0 {
					holdRead(t, written(b))
				}
			}
		}
	}
}

// P13.1: all rows of up to four organisations as members, whatever their order, some of them none.
func TestOrders(t *testing.T) {
	var try func(orgs []int)
	try = func(orgs []int) {
		for _, org := range []int{0, 1, 3, 7, 8} {
			b := api.Ballot{Txn: id(4, 1, 1), Members: list(orgs...), Org: org}
			hold(t, b)
			if !slices.Contains(orgs, -1) {
				holdRead(t, written(b))
			}
		}
		if len(orgs) < 4 {
			for _, o := range []int{-1, 0, 1, 3, 4, 6, 7, 8} {
				try(append(slices.Clone(orgs), o))
			}
		}
	}
	try(nil)
}

// P13.1: six members and seven; a million of them.
func TestCount(t *testing.T) {
	for n := range 10 {
		var orgs []int
		for o := range n {
			orgs = append(orgs, o)
		}
		for _, coord := range []int{-1, 0, 7, 8} {
			b := api.Ballot{Txn: id(coord, 1, 1), Members: list(orgs...), Org: n - 1}
			hold(t, b)
		}
	}
	if e := ballot.Check(api.Ballot{Txn: id(1, 1, 1), Members: make([]api.Member, 1<<20)}); e != api.ErrArg {
		t.Error(e)
	}
}

// P13.1, P13.2: digests that are none, at each member, whoever votes; other kinds of terms.
func TestDigests(t *testing.T) {
	for _, digest := range []string{"", "x", "d", data("x") + "y", row(row()), deep(3), atom("k"), atom("K"), "h" + data(""), "m" + atom("k") + data("x"), "s" + atom("k") + data("n") + data("x"),
		data(strings.Repeat("x", 1024)), data(strings.Repeat("x", 1025)), data("")[:1], strings.Repeat("x", 1<<20), written(example())} {
		for i := range 3 {
			for _, org := range []int{0, 3, 7, 5} {
				b := three(org)
				b.Members[i].Digest = digest
				hold(t, b)
				for _, k := range kits(t) {
					holdTag(t, k, b)
				}
			}
		}
	}
}

// P13.1, P13.2: bodies, and tags of terms, as deep as a term may be, or one deeper; a tag of bytes has all bodies.
func TestDepth(t *testing.T) {
	l := kits(t)
	for depth := 8; depth <= 18; depth++ {
		for i := range 3 {
			b := three(3)
			b.Members[i].Digest = deep(depth)
			hold(t, b)
			var bodyErr, tagErr api.Errno
			switch {
			case depth > 16:
				bodyErr, tagErr = api.ErrArg, api.ErrArg
			case depth > 13:
				bodyErr, tagErr = api.ErrLong, api.ErrLong
			case depth > 12:
				tagErr = api.ErrLong
			}
			if _, e := ballot.Body(b); e != bodyErr {
				t.Error(depth, i, e)
			}
			for _, k := range l {
				holdTag(t, k, b)
			}
			if _, e := ballot.Tag(l[1].s, b); e != tagErr {
				t.Error(depth, i, e)
			}
			if _, e := ballot.Tag(l[2].s, b); e != bodyErr {
				t.Error(depth, i, e)
			}
			if _, is := ballot.Digest(b); is != (depth <= 16) {
				t.Error(depth, i, is)
			}
		}
	}
}

// P13.1, P13.2: bodies, members and tags of terms as long as a term may be, or a byte longer.
func TestLength(t *testing.T) {
	l := kits(t)
	own := data("")
	b := three(3)
	b.Members[1].Digest = own
	s, _ := body(b)
	for what, rest := range map[string]int{"body": len(s) - len(own), "tag": 1 + len(atom("k/3/5")) + len(s) - len(own), "members": len(at(s, 3)) - len(own)} {
		for more := -3; more <= 3; more++ {
			b.Members[1].Digest = sized(t, api.MaxTerm-rest+more)
			hold(t, b)
			for _, k := range l {
				holdTag(t, k, b)
			}
			_, e := ballot.Body(b)
			_, f := ballot.Tag(l[1].s, b)
			_, g := ballot.Tag(l[2].s, b)
			if what == "body" && (e == api.ErrLong) != (more > 0) || what == "tag" && (e != api.OK || (f == api.ErrLong) != (more > 0)) || what == "members" && e != api.ErrLong || g != e {
				t.Error(what, more, e, f, g)
			}
		}
	}
	b.Members[1].Digest = sized(t, api.MaxTerm)
	if _, e := ballot.Body(b); e != api.ErrLong || ballot.Check(b) != api.OK {
		t.Error(e)
	}
	if d, is := ballot.Digest(b); !is || d != b.Members[1].Digest {
		t.Error(len(d), is)
	}
	b.Org = 5
	hold(t, b)
	if _, e := ballot.Tag(l[1].s, b); e != api.ErrArg {
		t.Error(e)
	}
}

// eachChange: s with each byte altered to every other value, taken out, put in, and cut off there.
func eachChange(s string, do func(string)) {
	for i := range len(s) {
		for b := range 256 {
			do(s[:i] + string([]byte{byte(b)}) + s[i+1:])
		}
		do(s[:i] + s[i+1:])
		do(s[:i] + s[i:i+1] + s[i:])
		do(s[:i])
	}
	do(s + s)
	do(s + "\x00")
}

// P13.1: bodies with each byte altered, taken out or put in.
func TestReadChanged(t *testing.T) {
	mixed := three(7)
	mixed.Members = []api.Member{member(0, atom("k")), member(3, row(num(1), data(""))), member(7, "h"+data("x"))}
	for _, b := range []api.Ballot{example(), three(0), mixed} {
		eachChange(written(b), func(s string) { holdRead(t, s) })
	}
}

// P13.1: what is no body, though nearly.
func TestReadWrong(t *testing.T) {
	head, x, three, one := data("ballot"), row(num(0), num(1), num(1)), num(3), row(row(num(1), data("")))
	for _, s := range []string{
		"", "x", "r", "d", row(), head, row(head), row(head, x), row(head, x, three), row(head, x, three, one), row(head, x, three, one, num(1), num(1)), row(head, x, three, one, num(1), row()),
		row(x, three, one, num(1)), row(data("Ballot"), x, three, one, num(1)), row(data("ballots"), x, three, one, num(1)), row(data(""), x, three, one, num(1)), row(atom("ballot"), x, three, one, num(1)),
		row(row(head), x, three, one, num(1)), row("h"+head, x, three, one, num(1)), row(data("vote"), x, three, one, num(1)), row(data("prepare"), x, three, one, num(1)),
		row(head, three, x, one, num(1)), row(head, x, one, three, num(1)), row(head, x, num(1), one, three), row(head, x, num(8), one, num(1)), row(head, x, three, one, num(3)), row(head, x, three, one, num(0)),
		row(head, x, data(""), one, num(1)), row(head, x, data("3"), one, num(1)), row(head, x, three, one, data("1")), row(head, x, three, one, data("")), row(head, x, three, one, row(num(1))), row(head, x, row(three), one, num(1)),
		row(head, x, three, row(), num(1)), row(head, x, three, row(one), num(1)), row(head, x, three, row(num(1), data("")), num(1)), row(head, x, three, row(row(num(0), data(""))), num(0)), row(head, x, three, row(row(num(1))), num(1)),
		row(head, x, three, row(row(num(2), data("")), row(num(1), data(""))), num(1)), row(head, x, three, row(row(num(1), data("")), row(num(1), data(""))), num(1)), row(head, x, three, row(row(num(8), data(""))), num(8)),
		row(head, row(num(0), num(0), num(1)), three, one, num(1)), row(head, row(num(0), num(1)), three, one, num(1)), row(head, row(num(1), num(1), num(1)), three, one, num(1)), row(head, row(num(8), num(1), num(1)), three, one, num(1)),
		row(head, data(octet.Num(1<<31)), three, one, num(1)), row(head, x, data(octet.Num(1<<32+3)), one, num(1)), row(head, x, three, one, data(octet.Num(1<<32+1))), row(head, x, three, one, atom("1")),
		row(head, x, three, one, num(1)) + "x", row(head, x, three, one, num(1))[:20], row(row(head, x, three, one, num(1))), "h" + row(head, x, three, one, num(1)), "m" + head + x, "s" + head + x + three,
		strings.Repeat("r\x01", 1<<20), strings.Repeat("x", 1<<20),
	} {
		holdRead(t, s)
		if b, is := ballot.Read(s); is || !same(b, api.Ballot{}) {
			t.Errorf("Read(%q): %v, %v", s, b, is)
		}
	}
}

// P13.1: bodies without one of their parts, or with one twice; who votes, and who audits, has the number of what is not there.
func TestReadParts(t *testing.T) {
	b := api.Ballot{Txn: id(2, 1, 1), Members: list(0, 3)}
	l, _ := term.Parts(written(b))
	for i := range l {
		for _, s := range []string{row(slices.Delete(slices.Clone(l), i, i+1)...), row(slices.Insert(slices.Clone(l), i, l[i])...), row(l[:i]...), row(append(slices.Clone(l), l[i])...)} {
			holdRead(t, s)
			if got, is := ballot.Read(s); is || !same(got, api.Ballot{}) {
				t.Errorf("Read(%q): %v, %v", s, got, is)
			}
		}
	}
}

// P13.1: rows of all of up to six parts of a pool.
func TestReadRows(t *testing.T) {
	pool := []string{data("ballot"), row(num(2), num(1), num(1)), num(0), num(3), row(row(num(0), data(""))), row(row(num(0), data("")), row(num(3), data("")))}
	good := 0
	var try func(l []string)
	try = func(l []string) {
		s := row(l...)
		holdRead(t, s)
		if _, is := ballot.Read(s); is {
			good++
		}
		if len(l) < 6 {
			for _, p := range pool {
				try(append(slices.Clone(l), p))
			}
		}
	}
	try(nil)
	// Two auditors; one member, who votes, or two of which one does.
	if good != 2*3 {
		t.Error(good)
	}
}

// P13.2: one tag in full: in terms, and in bytes by the library's HMAC.
func TestTags(t *testing.T) {
	b := three(7)
	s, _ := body(b)
	terms, _ := suite.New(api.SuTerms, "")
	if got, e := ballot.Tag(terms, b); got != "m"+"a\x05k/5/7"+s || e != api.OK {
		t.Errorf("%q, %v", got, e)
	}
	bytes, _ := suite.New(api.SuBytes, "m")
	if got, e := ballot.Tag(bytes, b); got != data(sum(sum("m", "key k/5/7"), s)) || e != api.OK {
		t.Errorf("%q, %v", got, e)
	}
	image, _ := bytes.Image("m" + atom("k/5/7") + s)
	if !ballot.Fits(bytes, b, image) {
		t.Error("the image of the tag does not fit")
	}
}

// P13.2: every auditor with every member of every other coordinator, in each kind of suites; none of two masters fits the other.
func TestEveryTag(t *testing.T) {
	l := kits(t)
	for coord := range 8 {
		for auditor := -1; auditor < 9; auditor++ {
			for org := -1; org < 9; org++ {
				b := api.Ballot{Txn: id(coord, 2, 300), Auditor: auditor, Members: list(slices.DeleteFunc(orgsOf(0b01111110), func(o int) bool { return o == coord })...), Org: org}
				for _, k := range l {
					holdTag(t, k, b)
				}
				a, e := ballot.Tag(l[2].s, b)
				if ballot.Fits(l[3].s, b, a) || ballot.Fits(l[1].s, b, a) || ballot.Fits(l[0].s, b, a) || ballot.Fits(l[2].s, b, a) != (e == api.OK) {
					t.Error("a tag fits in another suite:", b)
				}
			}
		}
	}
}

// P13.2: without a suite, ErrNil, whatever else is wrong; nothing fits.
func TestNil(t *testing.T) {
	for _, b := range []api.Ballot{{}, example(), three(1), three(3)} {
		if s, e := ballot.Tag(nil, b); s != "" || e != api.ErrNil {
			t.Errorf("%q, %v", s, e)
		}
		for _, k := range kits(t)[1:] {
			own, _ := tag(k, b)
			if ballot.Fits(nil, b, own) || ballot.Fits(nil, b, "") {
				t.Error(b)
			}
		}
	}
}

// P13.2: where there is no tag, not even the empty string fits.
func TestFitsNone(t *testing.T) {
	for _, k := range kits(t)[1:] {
		long, other := three(3), three(3)
		long.Members[0].Digest = sized(t, api.MaxTerm)
		other.Org = 1
		tags := []string{"", data(""), "m"}
		for _, b := range []api.Ballot{{}, long, other} {
			own, _ := tag(k, three(3))
			for _, s := range append(tags, own, "m"+atom(keyName(b))+written(b)) {
				if ballot.Fits(k.s, b, s) {
					t.Errorf("%v: %.50q", b, s)
				}
			}
		}
	}
}

// P13.2: a tag with any byte altered, taken out or put in doesn't fit.
func TestFitsChanged(t *testing.T) {
	for _, k := range kits(t)[1:] {
		b := three(3)
		own, _ := tag(k, b)
		eachChange(own, func(s string) {
			if ballot.Fits(k.s, b, s) != (s == own) {
				t.Fatalf("%q", s)
			}
		})
	}
}

// nearby: ballots that differ in one thing, or in two; each once.
func nearby() []api.Ballot {
	var l []api.Ballot
	for _, x := range []api.Txn{id(2, 1, 1), id(2, 2, 1), id(2, 1, 2), id(2, 1, 258), id(4, 1, 1)} {
		for _, auditor := range []int{0, 1, 2, 7} {
			for _, members := range [][]api.Member{list(1), list(1, 3), list(0, 1, 3), {member(1, data("x")), member(3, data(""))}, {member(1, data("")), member(3, data("x"))}} {
				for _, m := range members {
					l = append(l, api.Ballot{Txn: x, Auditor: auditor, Members: members, Org: m.Org})
				}
			}
		}
	}
	return l
}

// P13.3, P13.2: of many ballots, each tag fits its own, and no other.
func TestFitsOne(t *testing.T) {
	for _, k := range kits(t)[1:3] {
		l := nearby()
		var tags []string
		for _, b := range l {
			s, e := ballot.Tag(k.s, b)
			if e != api.OK {
				t.Fatal(b, e)
			}
			tags = append(tags, s)
		}
		for i, b := range l {
			for j, s := range tags {
				if ballot.Fits(k.s, b, s) != (i == j) {
					t.Fatalf("%v: the tag of %v", b, l[j])
				}
			}
		}
	}
}

// P13.3: in a suite of terms, a term that fits a ballot says by its parts which one it is.
func TestTagTells(t *testing.T) {
	terms, _ := suite.New(api.SuTerms, "")
	for _, b := range nearby() {
		s, _ := ballot.Tag(terms, b)
		got, is := ballot.Read(at(s, 1))
		if term.Kind(s) != api.TmMac || at(s, 0) != atom(keyName(b)) || !is || !same(got, b) {
			t.Errorf("%v: %q", b, s)
		}
	}
}

// learn: an attacker who has observed these terms.
func learn(t testing.TB, seen ...string) *know.Know {
	t.Helper()
	k := know.New()
	for _, s := range seen {
		if e := k.Learn(s); e != api.OK {
			t.Fatal(e)
		}
	}
	return k
}

// P13.3: who has observed neither the key nor the tag can't make the tag, whatever else was observed: all other keys, all other ballots' tags, and what is made with the key; with either of both it can be made.
func TestForged(t *testing.T) {
	terms, _ := suite.New(api.SuTerms, "")
	l := nearby()
	for i, b := range l {
		key, secret := atom(keyName(b)), atom("secret")
		seen := []string{"h" + key, "s" + key + data("n") + secret, "s" + secret + data("n") + key, "m" + key + data("x"), row("h"+key, data("ballot"))}
		for low := range 8 {
			for high := low; high < 8; high++ {
				for _, kind := range []string{"k", "s"} {
					if k := atom(fmt.Sprintf("%s/%d/%d", kind, low, high)); k != key {
						seen = append(seen, k)
					}
				}
			}
		}
		for j, other := range l {
			s, _ := ballot.Tag(terms, other)
			text, _ := ballot.Body(other)
			seen = append(seen, text, "s"+key+data("n")+text)
			if j != i {
				seen = append(seen, s)
			}
		}
		own, e := ballot.Tag(terms, b)
		if e != api.OK || own == "" {
			t.Fatal(b, e)
		}
		k := learn(t, append(seen, "h"+own)...)
		if k.Can(own) || k.Can(key) {
			t.Fatal(b, "the tag can be made")
		}
		with := k.Copy()
		if e := with.Learn(row(data("x"), own)); e != api.OK || !with.Can(own) || with.Can(key) {
			t.Fatal(b, e, "the tag was observed")
		}
		with = k.Copy()
		if e := with.Learn(key); e != api.OK || !with.Can(own) {
			t.Fatal(b, e, "the key was observed")
		}
	}
}

// anyTerm: a term, by chance.
func anyTerm(r *rand.Rand, depth int) string {
	switch r.Intn(7 + depth) {
	case 0:
		return atom([]string{"k", "k/0/1", "s/1/2"}[r.Intn(3)])
	case 1:
		return num(r.Intn(10))
	case 2:
		return data("ballot")
	case 3:
		return "h" + anyTerm(r, depth+1)
	case 4:
		return "m" + anyTerm(r, depth+1) + anyTerm(r, depth+1)
	case 5:
		var l []string
		for range r.Intn(5) {
			l = append(l, anyTerm(r, depth+1))
		}
		return row(l...)
	}
	return data("x")
}

// anyBallot: a ballot, by chance, most often a valid one.
func anyBallot(r *rand.Rand) api.Ballot {
	b := api.Ballot{Txn: id(r.Intn(8), 1+r.Intn(255), 1+r.Intn(65535)), Auditor: r.Intn(8), Org: r.Intn(8)}
	for o := range 8 {
		if o != b.Txn.Coord && r.Intn(2) == 0 {
			b.Members = append(b.Members, member(o, anyTerm(r, 3)))
		}
	}
	if len(b.Members) > 0 && r.Intn(8) > 0 {
		b.Org = b.Members[r.Intn(len(b.Members))].Org
	}
	return b
}

// P13.1, P13.2: ballots by chance, and their bodies with parts changed by chance; what Read takes, Body gives back.
func TestAny(t *testing.T) {
	r := rand.New(rand.NewSource(13))
	l := kits(t)
	for i := range 20000 {
		b := anyBallot(r)
		hold(t, b)
		holdTag(t, l[i%len(l)], b)
		s, e := ballot.Body(b)
		if e != api.OK {
			continue
		}
		subs := term.Subs(s)
		for range 5 {
			changed, _ := term.Swap(s, subs[r.Intn(len(subs))], anyTerm(r, 3))
			holdRead(t, changed)
			if b, is := ballot.Read(changed); is {
				if back, e := ballot.Body(b); e != api.OK || back != changed {
					t.Fatalf("%q, %v; want %q", back, e, changed)
				}
			}
		}
		cut := r.Intn(len(s))
		holdRead(t, s[:cut]+string([]byte{byte(r.Intn(256))})+s[cut+1:])
	}
}

// shares: whether the bytes of a lie in those of b.
func shares(a, b string) bool {
	if a == "" || b == "" {
		return false
	}
	p, q := uintptr(unsafe.Pointer(unsafe.StringData(a))), uintptr(unsafe.Pointer(unsafe.StringData(b)))
	return p < q+uintptr(len(b)) && q < p+uintptr(len(a))
}

// P13.1, P13.2 (R5): results are new memory, and arguments stay as they are.
func TestMemory(t *testing.T) {
	b := three(3)
	s, _ := ballot.Body(b)
	d, _ := ballot.Digest(b)
	x, _ := ballot.Read(s)
	y, _ := ballot.Read(s)
	for i, m := range b.Members {
		if shares(s, m.Digest) || shares(d, m.Digest) || shares(x.Members[i].Digest, s) || shares(x.Members[i].Digest, y.Members[i].Digest) {
			t.Error("memory is shared")
		}
	}
	x.Members[0] = api.Member{}
	if !same(y, b) || !same(b, three(3)) {
		t.Error("two results share a list, or the argument is changed")
	}
	full := slices.Grow(list(0, 3, 7), 10)
	behind := full[:10]
	b.Members = full
	ballot.Body(b)
	ballot.Digest(b)
	for _, k := range kits(t) {
		own, _ := ballot.Tag(k.s, b)
		if shares(own, s) || !ballot.Fits(k.s, b, own) && k.s != nil {
			t.Error("tag")
		}
	}
	if !slices.Equal(full, list(0, 3, 7)) || !slices.Equal(behind[3:], make([]api.Member, 7)) {
		t.Error("a list is changed")
	}
}

// P13.1, P13.2 (R6): the same answers again, and at the same time.
func TestAgain(t *testing.T) {
	r := rand.New(rand.NewSource(6))
	l := kits(t)
	var all []api.Ballot
	for range 200 {
		all = append(all, anyBallot(r))
	}
	var wg sync.WaitGroup
	for range 8 {
		wg.Add(1)
		go func() {
			defer wg.Done()
			for _, b := range all {
				for _, k := range l {
					want, e := tag(k, b)
					if s, f := ballot.Tag(k.s, b); s != want || f != e || ballot.Fits(k.s, b, s) != (e == api.OK) {
						t.Errorf("%v: %q, %v", b, s, f)
					}
				}
			}
		}()
	}
	wg.Wait()
}
