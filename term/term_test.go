package term_test

import (
	"math"
	"math/rand"
	"slices"
	"strings"
	"testing"
	"unsafe"

	"chirograph/api"
	"chirograph/octet"
	"chirograph/term"
)

// tree is a term, taken apart: the tests' own form of what the chapter defines.
type tree struct {
	kind  uint8
	text  string
	parts []*tree
}

// letters of the kinds, in their order; the first is none's.
const letters = "?darhms"

// write: the tree as the chapter lays it down.
func (t *tree) write() string {
	s := letters[t.kind : t.kind+1]
	switch t.kind {
	case api.TmData, api.TmAtom:
		return s + octet.Text(t.text)
	case api.TmRow:
		s += octet.Num(uint64(len(t.parts)))
	}
	for _, p := range t.parts {
		s += p.write()
	}
	return s
}

// depth: how deep the deepest position is.
func (t *tree) depth() int {
	deep := 0
	for _, p := range t.parts {
		deep = max(deep, p.depth())
	}
	return deep + 1
}

// all: the trees at all positions, in their order.
func (t *tree) all() []*tree {
	l := []*tree{t}
	for _, p := range t.parts {
		l = append(l, p.all()...)
	}
	return l
}

// swap: t with to where from stands.
func (t *tree) swap(from string, to *tree) *tree {
	if t.write() == from {
		return to
	}
	u := &tree{kind: t.kind, text: t.text}
	for _, p := range t.parts {
		u.parts = append(u.parts, p.swap(from, to))
	}
	return u
}

// nameOK: whether an atom may have the name.
func nameOK(s string) bool {
	return len(s) >= 1 && len(s) <= api.MaxAtom && strings.Trim(s, "abcdefghijklmnopqrstuvwxyz0123456789/.-") == "" && strings.IndexFunc(s, func(r rune) bool {
		return !strings.ContainsRune("abcdefghijklmnopqrstuvwxyz0123456789/.-", r)
	}) < 0
}

// parse: the tree of the term that s begins with, without its limit of bytes, how long it is, and the first thing that is wrong.
func parse(s string, depth int) (*tree, int, api.Errno) {
	if depth == 17 {
		return nil, 0, api.ErrDeep
	}
	if len(s) == 0 {
		return nil, 0, api.ErrEnd
	}
	t := &tree{}
	n, count := 1, 0
	switch s[0] {
	case 'd':
		x, k, e := octet.ReadText(s[1:], 1024)
		if e != api.OK {
			return nil, 0, e
		}
		t.kind, t.text, n = api.TmData, x, 1+k
	case 'a':
		x, k, e := octet.ReadText(s[1:], 32)
		if e != api.OK {
			return nil, 0, e
		}
		if !nameOK(x) {
			return nil, 0, api.ErrForm
		}
		t.kind, t.text, n = api.TmAtom, x, 1+k
	case 'r':
		v, k, e := octet.ReadNum(s[1:])
		if e != api.OK {
			return nil, 0, e
		}
		if v > 32 {
			return nil, 0, api.ErrLong
		}
		t.kind, count, n = api.TmRow, int(v), 1+k
	case 'h':
		t.kind, count = api.TmHash, 1
	case 'm':
		t.kind, count = api.TmMac, 2
	case 's':
		t.kind, count = api.TmSeal, 3
	default:
		return nil, 0, api.ErrForm
	}
	for len(t.parts) < count {
		p, k, e := parse(s[n:], depth+1)
		if e != api.OK {
			return nil, 0, e
		}
		t.parts, n = append(t.parts, p), n+k
	}
	return t, n, api.OK
}

// read: what Read is to answer.
func read(s string) (*tree, int, api.Errno) {
	t, n, e := parse(s, 1)
	if e == api.OK && n > 16384 {
		return nil, 0, api.ErrLong
	}
	return t, n, e
}

// trees are those that were asked for, so that none is made again and again.
var trees = map[string]*tree{}

// treeOf: the tree of t, nil if it is not a term.
func treeOf(t string) *tree {
	if x, ok := trees[t]; ok {
		return x
	}
	x, n, e := read(t)
	if e != api.OK || n != len(t) {
		x = nil
	}
	trees[t] = x
	return x
}

// Shorthands to write terms down.

func d(s string) string                { return "d" + octet.Text(s) }
func a(s string) string                { return "a" + octet.Text(s) }
func r(l ...string) string             { return "r" + octet.Num(uint64(len(l))) + strings.Join(l, "") }
func h(t string) string                { return "h" + t }
func m(k, t string) string             { return "m" + k + t }
func s(k, n, t string) string          { return "s" + k + n + t }
func rep(s string, n int) string       { return strings.Repeat(s, n) }
func same(l, m []string) bool          { return slices.Equal(l, m) }
func rows(t string, n int) string      { return rep("r\x01", n) + t }
func pick(g *rand.Rand, l string) byte { return l[g.Intn(len(l))] }

// sized: a row of datums that has n bytes in all, from 100 to 30000.
func sized(n int) string {
	var l []string
	left := n - 2
	for left > 1028 {
		l = append(l, d(rep("x", 996))) // 1000 bytes each
		left -= 1000
	}
	switch {
	case left <= 248+1:
		l = append(l, d(rep("x", left-2)))
	case left <= 251:
		l = append(l, d(""), d(rep("x", left-4)))
	case left <= 255+3:
		l = append(l, d(rep("x", left-3)))
	case left <= 260:
		l = append(l, d(""), d(rep("x", left-5)))
	default:
		l = append(l, d(rep("x", left-4)))
	}
	return r(l...)
}

// TestSized: that the tests' long terms are as long as they say.
func TestSized(t *testing.T) {
	for n := 100; n < 20000; n++ {
		if got := len(sized(n)); got != n {
			t.Fatal(n, got)
		}
	}
	for n := 15000; n < 16400; n++ {
		if _, _, e := parse(sized(n), 1); e != api.OK {
			t.Fatal(n, e)
		}
	}
}

// checkRead: Read and Check of x against the tests' own reading.
func checkRead(t *testing.T, x string) {
	t.Helper()
	_, n, e := read(x)
	if gn, ge := term.Read(x); gn != n || ge != e {
		t.Fatalf("Read(%.80q): %d %d, not %d %d", x, gn, int(ge), n, int(e))
	}
	if e == api.OK && n < len(x) {
		e = api.ErrForm
	}
	if ge := term.Check(x); ge != e {
		t.Fatalf("Check(%.80q): %d, not %d", x, int(ge), int(e))
	}
}

// P6.1: the edges that the chapter names, and which error is first.
func TestReadEdges(t *testing.T) {
	deep := func(n int) string { return rep("h", n) }
	long := sized(16384)
	for _, x := range []struct {
		s string
		n int
		e api.Errno
	}{
		{"", 0, api.ErrEnd},
		{"x", 0, api.ErrForm},
		{"D\x00", 0, api.ErrForm},
		{"\x00", 0, api.ErrForm},
		{"\xff", 0, api.ErrForm},
		{"d", 0, api.ErrEnd},
		{"d\x00", 2, api.OK},
		{"d\x00d\x00", 2, api.OK},
		{"d\x02ab", 4, api.OK},
		{"d\x02abc", 4, api.OK},
		{"d\x02a", 0, api.ErrEnd},
		{"d\xf8", 0, api.ErrEnd},
		{"d\xf8\xf7", 0, api.ErrForm},
		{"d\xf8\xf8" + rep("x", 248), 251, api.OK},
		{"d\xf8\xf8" + rep("x", 247), 0, api.ErrEnd},
		{"d\xf9\x00\x01", 0, api.ErrForm},
		{d(rep("x", 1024)), 1028, api.OK},
		{d(rep("x", 1025)), 0, api.ErrLong},
		{"d\xf9\x04\x01", 0, api.ErrLong},
		{"d\xf9\x04\x00", 0, api.ErrEnd},
		{"d\xff" + rep("\xff", 8), 0, api.ErrLong},
		{"d\xff" + rep("\xff", 7), 0, api.ErrEnd},
		{"a", 0, api.ErrEnd},
		{"a\x00", 0, api.ErrForm},
		{"a\x01", 0, api.ErrEnd},
		{"a\x01k", 3, api.OK},
		{"a\x01K", 0, api.ErrForm},
		{"a\x02k", 0, api.ErrEnd},
		{"a\x02K", 0, api.ErrEnd},
		{"a\x02k\xff", 0, api.ErrForm},
		{"a\x02\u03b1", 0, api.ErrForm},
		{"a\x05k/9.-", 7, api.OK},
		{a(rep("k", 32)), 34, api.OK},
		{a(rep("k", 33)), 0, api.ErrLong},
		{"a\x21", 0, api.ErrLong},
		{"a\x20", 0, api.ErrEnd},
		{"a\xf8\x20" + rep("k", 32), 0, api.ErrForm},
		{"r", 0, api.ErrEnd},
		{"r\x00", 2, api.OK},
		{"r\x01", 0, api.ErrEnd},
		{"r\x20" + rep("r\x00", 32), 66, api.OK},
		{"r\x20" + rep("r\x00", 31), 0, api.ErrEnd},
		{"r\x21" + rep("r\x00", 33), 0, api.ErrLong},
		{"r\x21", 0, api.ErrLong},
		{"r\xf7", 0, api.ErrLong},
		{"r\xf8", 0, api.ErrEnd},
		{"r\xf8\x01", 0, api.ErrForm},
		{"r\xf8\xf8", 0, api.ErrLong},
		{"r\xff" + rep("\xff", 8), 0, api.ErrLong},
		{"r\xff\x80" + rep("\x00", 7), 0, api.ErrLong},
		{"r\xff\x01" + rep("\x00", 7), 0, api.ErrLong},
		{"r\x02d\x00x", 0, api.ErrForm},
		{"r\x02xd\x05", 0, api.ErrForm},
		{"r\x02d\x05xd\x00", 0, api.ErrEnd},
		{"h", 0, api.ErrEnd},
		{"hd\x01", 0, api.ErrEnd},
		{"hd\x00", 3, api.OK},
		{"hd\x00d\x00", 3, api.OK},
		{"m", 0, api.ErrEnd},
		{"md\x00", 0, api.ErrEnd},
		{"md\x00d\x00", 5, api.OK},
		{"md\x00d\x00d\x00", 5, api.OK},
		{"md\x00K", 0, api.ErrForm},
		{"s", 0, api.ErrEnd},
		{"sd\x00d\x00", 0, api.ErrEnd},
		{"sd\x00d\x00d\x00", 7, api.OK},
		{"sd\x00d\x00d\x00d\x00", 7, api.OK},
		{deep(15) + "r\x00", 17, api.OK},
		{deep(15) + "d\x00", 17, api.OK},
		{deep(15) + "a\x01k", 18, api.OK},
		{deep(15), 0, api.ErrEnd},
		{deep(15) + "K", 0, api.ErrForm},
		{deep(16), 0, api.ErrDeep},
		{deep(16) + "d\x00", 0, api.ErrDeep},
		{deep(16) + "K", 0, api.ErrDeep},
		{deep(17), 0, api.ErrDeep},
		{deep(15) + "r\x01", 0, api.ErrDeep},
		{deep(15) + "r\x01d\x00", 0, api.ErrDeep},
		{deep(15) + "r\x21", 0, api.ErrLong},
		{deep(15) + "m", 0, api.ErrDeep},
		{deep(15) + "s", 0, api.ErrDeep},
		{rows("r\x00", 15), 32, api.OK},
		{rows("r\x00", 16), 0, api.ErrDeep},
		{"r\x02" + deep(14) + "d\x00" + deep(15) + "d\x00", 0, api.ErrDeep},
		{"r\x02" + deep(14) + "d\x00" + deep(14) + "d\x00", 34, api.OK},
		{"r\x02" + deep(15) + "d\x00x", 0, api.ErrDeep},
		{"r\x02x" + deep(15) + "d\x00", 0, api.ErrForm},
		{long, 16384, api.OK},
		{long + "x", 16384, api.OK},
		{sized(16385), 0, api.ErrLong},
		{sized(16385) + "x", 0, api.ErrLong},
		{"h" + long, 0, api.ErrLong},
		{"h" + sized(16383), 16384, api.OK},
		{"r\x02" + sized(16382) + "d\x00", 0, api.ErrLong},
		{"r\x02" + sized(16380) + "d\x00", 16384, api.OK},
		{"r\x02" + sized(16384), 0, api.ErrEnd},
		{"r\x02" + sized(20000) + "x", 0, api.ErrForm},
		{"r\x02" + sized(20000) + deep(15) + "d\x00", 0, api.ErrDeep},
		{"r\x02" + sized(20000) + "a\x01K", 0, api.ErrForm},
		{"r\x02" + sized(20000) + "d\x01", 0, api.ErrEnd},
		{"m" + sized(20000) + sized(20000), 0, api.ErrLong},
		{"r\x20" + rep(sized(20000), 31) + "x", 0, api.ErrForm},
		{"r\x20" + rep(sized(20000), 32), 0, api.ErrLong},
	} {
		if n, e := term.Read(x.s); n != x.n || e != x.e {
			t.Errorf("Read(%.40q): %d %d, not %d %d", x.s, n, int(e), x.n, int(x.e))
		}
		checkRead(t, x.s)
	}
}

// P6.1: what bytes an atom's name may have, each in each place.
func TestReadNames(t *testing.T) {
	allowed := "abcdefghijklmnopqrstuvwxyz0123456789/.-"
	for c := range 256 {
		b := string([]byte{byte(c)})
		for _, name := range []string{b, b + "k", "k" + b, "k" + b + "k", rep("k", 31) + b, b + rep("k", 31)} {
			want := api.OK
			if !strings.Contains(allowed, b) {
				want = api.ErrForm
			}
			if n, e := term.Read(a(name)); e != want || e == api.OK && n != len(name)+2 {
				t.Errorf("%q: %d %d", name, n, int(e))
			}
			x, e := term.Atom(name)
			if e != want || e == api.OK && x != a(name) || e != api.OK && x != "" {
				t.Errorf("Atom(%q): %q %d", name, x, int(e))
			}
			checkRead(t, a(name))
		}
	}
}

// P6.1, P6.3: all strings of a few bytes that matter.
func TestReadShort(t *testing.T) {
	bytes := "darhmsk\x00\x01\x02\x21\xf8"
	l := []string{""}
	for range 5 {
		var next []string
		for _, x := range l {
			for i := range len(bytes) {
				next = append(next, x+bytes[i:i+1])
			}
		}
		for _, x := range next {
			checkRead(t, x)
		}
		l = next
	}
	for c := range 256 {
		for c2 := range 256 {
			x := string([]byte{byte(c), byte(c2)})
			checkRead(t, x)
			checkRead(t, x+"k")
			checkRead(t, x+rep("d\x00", 32))
			checkRead(t, x+rep("k", 300))
		}
	}
}

// P6.1: Read and Check go through long strings once, and no deeper than they may.
func TestReadGreat(t *testing.T) {
	checkRead(t, rep("h", 1<<22))
	checkRead(t, rep("m", 1<<22))
	checkRead(t, rep("r\x20", 1<<21))
	full := "r\x00"
	for range 4 {
		full = "r\x20" + rep(full, 32)
	}
	checkRead(t, full) // over two million bytes, well-formed
	checkRead(t, full+"x")
	checkRead(t, "r\x02"+full)
	checkRead(t, "r\x02"+full+"x")
}

// random: a tree of at most so many levels, of few different leaves if narrow, that is valid in all but its number of bytes.
func random(g *rand.Rand, levels int, narrow bool) *tree {
	kind := uint8(1 + g.Intn(6))
	if levels == 1 {
		kind = []uint8{api.TmData, api.TmAtom, api.TmRow}[g.Intn(3)]
	}
	t := &tree{kind: kind}
	parts := 0
	switch kind {
	case api.TmData:
		n := g.Intn(3)
		if !narrow && g.Intn(10) == 0 {
			n = []int{247, 248, 255, 256, 1024, g.Intn(1025)}[g.Intn(6)]
		}
		b := make([]byte, n)
		for i := range b {
			b[i] = pick(g, "darhms\x00\x01\x02k\xff")
			if narrow {
				b[i] = pick(g, "d\x00")
			}
		}
		t.text = string(b)
	case api.TmAtom:
		n := 1 + g.Intn(2)
		if !narrow && g.Intn(5) == 0 {
			n = []int{31, 32}[g.Intn(2)]
		}
		b := make([]byte, n)
		for i := range b {
			b[i] = pick(g, "az09/.-km")
			if narrow {
				b[i] = 'k'
			}
		}
		t.text = string(b)
	case api.TmRow:
		if levels > 1 {
			parts = g.Intn(4)
			if !narrow && g.Intn(20) == 0 {
				parts = 32
			}
		}
	case api.TmHash:
		parts = 1
	case api.TmMac:
		parts = 2
	case api.TmSeal:
		parts = 3
	}
	for range parts {
		t.parts = append(t.parts, random(g, 1+g.Intn(levels-1), narrow))
	}
	return t
}

// some: that many random terms.
func some(seed int64, count, levels int, narrow bool) []string {
	g := rand.New(rand.NewSource(seed))
	var l []string
	for len(l) < count {
		if x := random(g, levels, narrow).write(); len(x) <= 16384 {
			l = append(l, x)
		}
	}
	return l
}

// P6.1: random terms, what begins them, what follows them, and what differs from them in a byte.
func TestReadRandom(t *testing.T) {
	g := rand.New(rand.NewSource(61))
	for i, x := range some(6, 3000, 16, false) {
		if n, e := term.Read(x); n != len(x) || e != api.OK {
			t.Fatalf("%q: %d %d", x, n, int(e))
		}
		checkRead(t, x)
		checkRead(t, x+x)
		checkRead(t, x+string(pick(g, letters)))
		for range 20 {
			at := g.Intn(len(x))
			checkRead(t, x[:at])
			checkRead(t, x[:at]+x[at+1:])
			checkRead(t, x[:at]+string([]byte{pick(g, letters+"\x00\x01\x02\x20\x21\xf8\xf9kK")})+x[at+1:])
			checkRead(t, x[:at]+x[g.Intn(len(x)):])
		}
		checkRead(t, rep("h", i%16)+x)
	}
}

// P6.2: datums and atoms, of all lengths about the limits.
func TestDataAtom(t *testing.T) {
	for n := range 1100 {
		x := rep("x", n)
		want, e := d(x), api.OK
		if n > 1024 {
			want, e = "", api.ErrLong
		}
		if got, ge := term.Data(x); got != want || ge != e {
			t.Fatal("Data", n, len(got), int(ge))
		}
		want, e = a(x), api.OK
		if n == 0 {
			want, e = "", api.ErrForm
		}
		if n > 32 {
			want, e = "", api.ErrLong
		}
		if got, ge := term.Atom(x); got != want || ge != e {
			t.Fatal("Atom", n, len(got), int(ge))
		}
		// Too long, and wrong: ErrLong is named first.
		if n > 0 {
			e = api.ErrForm
			if n > 32 {
				e = api.ErrLong
			}
			if got, ge := term.Atom(x[1:] + "X"); got != "" || ge != e {
				t.Fatal("Atom", n, len(got), int(ge))
			}
		}
	}
	if x, e := term.Data("\xff\x00K"); x != "d\x03\xff\x00K" || e != api.OK {
		t.Error(x, e)
	}
}

// wrong are strings that are no terms.
func wrong() []string {
	return []string{"", "x", "d", "d\x00x", "a\x00", "a\x01K", "h", "r\x01", rep("h", 16) + "d\x00", sized(16385), "d\x00d\x00", "r\x21" + rep("d\x00", 33), d(rep("x", 1025)), a(rep("k", 33))}
}

// calls are those that make a term of so many parts.
func calls(l []string) map[string]func() (string, api.Errno) {
	c := map[string]func() (string, api.Errno){"r": func() (string, api.Errno) { return term.Row(l...) }}
	switch len(l) {
	case 1:
		c["h"] = func() (string, api.Errno) { return term.Hash(l[0]) }
	case 2:
		c["m"] = func() (string, api.Errno) { return term.Mac(l[0], l[1]) }
	case 3:
		c["s"] = func() (string, api.Errno) { return term.Seal(l[0], l[1], l[2]) }
	}
	return c
}

// checkMade: what each call makes of l.
func checkMade(t *testing.T, l []string) {
	t.Helper()
	kept := slices.Clone(l)
	for letter, call := range calls(l) {
		want, e := letter+strings.Join(l, ""), api.OK
		if letter == "r" {
			want = r(l...)
		}
		if treeOf(want) == nil {
			want, e = "", api.ErrLong
		}
		for _, x := range l {
			if treeOf(x) == nil {
				want, e = "", api.ErrArg
			}
		}
		if got, ge := call(); got != want || ge != e {
			t.Fatalf("%s of %.60q: %.40q %d, not %.40q %d", letter, l, got, int(ge), want, int(e))
		}
	}
	if !slices.Equal(l, kept) {
		t.Fatal("an argument has changed")
	}
}

// P6.2: rows, hashes, macs and seals of terms, and of what is none, wherever it stands.
func TestMade(t *testing.T) {
	ok := some(62, 40, 5, false)
	ok = append(ok, rep("h", 14)+"d\x00", rep("h", 15)+"d\x00", sized(16383), sized(16384), sized(16382), sized(8192), sized(8191), sized(8190), sized(5461), sized(5460))
	checkMade(t, nil)
	checkMade(t, []string{})
	for _, x := range ok {
		checkMade(t, []string{x})
		for _, y := range ok {
			checkMade(t, []string{x, y})
			checkMade(t, []string{x, y, ok[0]})
			checkMade(t, []string{ok[1], x, y})
			checkMade(t, []string{x, ok[2], y, ok[3]})
		}
		for _, y := range wrong() {
			checkMade(t, []string{y})
			for at := range 3 {
				checkMade(t, slices.Insert([]string{x, x}, at, y))
				checkMade(t, []string{x, y})
				checkMade(t, []string{y, x})
			}
		}
	}
	for n := range 40 {
		l := slices.Repeat([]string{"d\x00"}, n)
		checkMade(t, l)
		if n > 0 {
			l[n-1] = "x" // wrong, and perhaps too many: ErrArg is named first
			checkMade(t, l)
		}
	}
	checkMade(t, slices.Repeat([]string{d(rep("x", 507))}, 32))
	checkMade(t, slices.Repeat([]string{d(rep("x", 508))}, 32))
	checkMade(t, slices.Repeat([]string{d(rep("x", 509))}, 32))
	checkMade(t, append(slices.Repeat([]string{d(rep("x", 1000))}, 32), "x"))
	if x, e := term.Row(); x != "r\x00" || e != api.OK {
		t.Error(x, e)
	}
}

// P6.2: very many and long parts are too long, at once: they are not laid together.
func TestMadeGreat(t *testing.T) {
	l := slices.Repeat([]string{sized(16384)}, 1<<14)
	if x, e := term.Row(l...); x != "" || e != api.ErrLong {
		t.Error(len(x), e)
	}
	l[len(l)-1] = ""
	if x, e := term.Row(l...); x != "" || e != api.ErrArg {
		t.Error(len(x), e)
	}
}

// P6.2: numbers as datums, and back.
func TestNum(t *testing.T) {
	const most = 1<<31 - 1
	check := func(v int) {
		t.Helper()
		want, e := "", api.ErrArg
		if v >= 0 && v <= most {
			want, e = d(octet.Num(uint64(v))), api.OK
		}
		x, ge := term.Num(v)
		if x != want || ge != e {
			t.Fatalf("Num(%d): %q %d", v, x, int(ge))
		}
		if e == api.OK {
			if got, ok := term.ReadNum(x); got != v || !ok {
				t.Fatalf("ReadNum(Num(%d)): %d %v", v, got, ok)
			}
		}
	}
	for v := -300; v < 70000; v++ {
		check(v)
	}
	for i := range 64 {
		for k := -2; k <= 2; k++ {
			check(int(uint64(1)<<i) + k)
			check(-int(uint64(1)<<i) + k)
		}
	}
	for _, v := range []int{math.MinInt, math.MaxInt, most, most + 1, most - 1, 1<<32 + 5, -1} {
		check(v)
	}
	g := rand.New(rand.NewSource(63))
	for range 20000 {
		check(g.Intn(1 << 31))
	}
}

// P6.2: what is no number.
func TestReadNumWrong(t *testing.T) {
	l := append(wrong(), "d\x00", "a\x015", "a\x01-", "r\x00", r(d("\x05")), h(d("\x05")), d("\x05\x05"), d("\xf8"), d("\xf8\xf7"), d("\xf8\x05"), d("\xf9\x00\xff"), d("\xf8\xf8x"), d("\xf8\xf8\x00"),
		d(octet.Num(1<<31)), d(octet.Num(1<<31+7)), d(octet.Num(1<<32)), d(octet.Num(1<<32+5)), d(octet.Num(1<<63)), d(octet.Num(1<<63+5)), d(octet.Num(math.MaxUint64)),
		d(octet.Num(7))+"x", d(octet.Num(7))[:2], m(d("\x05"), d("\x05")), s(d("\x05"), d("\x05"), d("\x05")), a("0"), a("a"), r(d("\x01"), d("\x02")))
	for _, x := range l {
		if v, ok := term.ReadNum(x); v != 0 || ok {
			t.Errorf("%.40q: %d %v", x, v, ok)
		}
	}
	// A datum is a number if and only if it is what Num makes of it.
	for c := range 256 {
		for c2 := range 256 {
			for _, text := range []string{string([]byte{byte(c)}), string([]byte{byte(c), byte(c2)}), string([]byte{0xf9, byte(c), byte(c2)}), string([]byte{0xfb, byte(c), byte(c2), 0, 0})} {
				v, ok := term.ReadNum(d(text))
				x, _ := term.Num(v)
				if ok != (x == d(text)) {
					t.Fatalf("%q: %d %v", text, v, ok)
				}
				want, n, e := octet.ReadNum(text)
				if ok != (e == api.OK && n == len(text) && want <= 1<<31-1) || ok && uint64(v) != want || !ok && v != 0 {
					t.Fatalf("%q: %d %v", text, v, ok)
				}
			}
		}
	}
}

// checkShape: Kind, Text, Parts, Size, Depth and Subs of x against the tests' own reading.
func checkShape(t *testing.T, x string) {
	t.Helper()
	u := treeOf(x)
	isTerm := u != nil
	if u == nil {
		u = &tree{}
	}
	if k := term.Kind(x); k != u.kind {
		t.Fatalf("Kind(%.60q): %d, not %d", x, k, u.kind)
	}
	leaf := u.kind == api.TmData || u.kind == api.TmAtom
	if text, ok := term.Text(x); text != u.text || ok != leaf {
		t.Fatalf("Text(%.60q): %q %v", x, text, ok)
	}
	var parts []string
	for _, p := range u.parts {
		parts = append(parts, p.write())
	}
	if l, ok := term.Parts(x); !same(l, parts) || ok != isTerm {
		t.Fatalf("Parts(%.60q): %.100q %v", x, l, ok)
	}
	size, depth := 0, 0
	var subs []string
	if isTerm {
		size, depth = len(u.all()), u.depth()
		for _, v := range u.all() {
			if w := v.write(); !slices.Contains(subs, w) {
				subs = append(subs, w)
			}
		}
	}
	if n := term.Size(x); n != size {
		t.Fatalf("Size(%.60q): %d, not %d", x, n, size)
	}
	if n := term.Depth(x); n != depth {
		t.Fatalf("Depth(%.60q): %d, not %d", x, n, depth)
	}
	if l := term.Subs(x); !same(l, subs) {
		t.Fatalf("Subs(%.60q): %.200q, not %.200q", x, l, subs)
	}
}

// P6.3, P6.4: the kinds, texts, parts, sizes, depths and subterms of terms, and of what is none.
func TestShape(t *testing.T) {
	for _, x := range wrong() {
		checkShape(t, x)
	}
	for _, x := range []string{"d\x00", d("d\x00"), a("k"), r(), r(d("")), r(r(), r()), h(d("x")), m(a("k"), d("x")), m(d("x"), d("x")), s(a("k"), d("n"), d("x")), s(r(), r(), r(r())),
		r(d(""), d(""), d("d\x00")), rep("h", 15) + "d\x00", rows("r\x00", 15), sized(16384), d(rep("d\x00", 512)), r(slices.Repeat([]string{h(d("x"))}, 32)...)} {
		if treeOf(x) == nil {
			t.Fatalf("%q", x)
		}
		checkShape(t, x)
	}
	for _, x := range some(64, 2000, 16, false) {
		checkShape(t, x)
		checkShape(t, x+"d")
		checkShape(t, x[:len(x)-1])
	}
	for _, x := range some(65, 2000, 6, true) {
		checkShape(t, x)
	}
}

// P6.3, P6.4: a term of as many positions as can be.
func TestShapeGreat(t *testing.T) {
	x := r(slices.Repeat([]string{r(slices.Repeat([]string{r(slices.Repeat([]string{r()}, 7)...)}, 31)...)}, 32)...)
	u := treeOf(x)
	if u == nil {
		t.Fatal(len(x))
	}
	if n := term.Size(x); n != len(u.all()) || n < 7900 {
		t.Error(n)
	}
	if n := term.Depth(x); n != 4 {
		t.Error(n)
	}
	if l := term.Subs(x); len(l) != 4 {
		t.Error(len(l))
	}
	if y, e := term.Swap(x, r(), x); y != "" || e != api.ErrLong {
		t.Error(len(y), e)
	}
	if y, e := term.Swap(x, r(), d("")); y != strings.ReplaceAll(x, "r\x00", "d\x00") || e != api.OK {
		t.Error(len(y), e)
	}
	if y, e := term.Swap(x, x, r()); y != r() || e != api.OK {
		t.Error(len(y), e)
	}
}

// checkHas: Has and Swap of the three against the tests' own reading.
func checkHas(t *testing.T, x, from, to string) {
	t.Helper()
	u, v, w := treeOf(x), treeOf(from), treeOf(to)
	has := false
	if u != nil && v != nil {
		for _, p := range u.all() {
			has = has || p.write() == from
		}
	}
	if got := term.Has(x, from); got != has {
		t.Fatalf("Has(%.60q, %.60q): %v", x, from, got)
	}
	want, e := "", api.ErrArg
	if u != nil && v != nil && w != nil {
		want, e = u.swap(from, w).write(), api.OK
		if treeOf(want) == nil {
			want, e = "", api.ErrLong
		}
	}
	if got, ge := term.Swap(x, from, to); got != want || ge != e {
		t.Fatalf("Swap(%.60q, %.60q, %.60q): %.60q %d, not %.60q %d", x, from, to, got, int(ge), want, int(e))
	}
}

// P6.4: what stands in a term, and what takes its place: at positions, not in texts.
func TestHasSwap(t *testing.T) {
	k, j, x := a("k"), a("j"), d("x")
	long := sized(16384)
	deep := rep("h", 15) + "d\x00"
	l := []string{k, j, x, d(""), d(x), d(k), d("d\x00"), d("ax"), r(), r(k), r(k, j), r(k, k), r(r(k), k), r(d("d\x00"), d("")), h(k), h(h(k)), h(h(h(k))), m(k, x), m(x, k), m(m(k, x), x), s(k, j, x), s(k, k, k), s(x, s(k, j, x), k),
		deep, deep[1:], deep[10:], long, sized(8000), r(sized(8000), sized(8000)), a("kk"), r(a("kk"), k), r(d("a\x01k"), k), sized(16382), r(k, sized(16300))}
	for _, y := range l {
		for _, from := range l {
			for _, to := range l {
				checkHas(t, y, from, to)
			}
		}
	}
	for _, y := range wrong() {
		for _, z := range append(wrong(), l[:12]...) {
			checkHas(t, y, z, k)
			checkHas(t, z, y, k)
			checkHas(t, k, y, z)
			checkHas(t, k, z, y)
			checkHas(t, h(k), k, y)
		}
	}
}

// P6.4: terms of few different parts, all that stand in them, and others.
func TestHasSwapRandom(t *testing.T) {
	g := rand.New(rand.NewSource(66))
	l := some(67, 1500, 7, true)
	for i, x := range l {
		if len(x) > 2000 {
			continue
		}
		subs := term.Subs(x)
		for range 30 {
			from, to := subs[g.Intn(len(subs))], l[g.Intn(len(l))]
			checkHas(t, x, from, to)
			checkHas(t, x, to, from)
			checkHas(t, x, from, from)
			checkHas(t, x, from, h(from))
			checkHas(t, x, subs[g.Intn(len(subs))], x)
		}
		for range 100 {
			checkHas(t, x, l[g.Intn(len(l))], l[(i+1)%len(l)])
		}
	}
}

// P6.4: the places at which the result has just as many bytes, or is just as deep, as it may be.
func TestSwapEdges(t *testing.T) {
	k := a("k") // 3 bytes
	x := r(slices.Repeat([]string{k}, 16)...)
	for _, n := range []int{1022, 1023, 1024, 1025} {
		to := sized(n) // 2 + 16 n bytes in all
		want := api.OK
		if 2+16*n > 16384 {
			want = api.ErrLong
		}
		if y, e := term.Swap(x, k, to); e != want || e == api.OK && len(y) != 2+16*n || e != api.OK && y != "" {
			t.Error(n, len(y), e)
		}
		checkHas(t, x, k, to)
	}
	for n := 16370; n <= 16384; n++ {
		checkHas(t, r(k, d("")), k, sized(n))
		checkHas(t, r(d(""), k), k, sized(n))
		checkHas(t, h(k), k, sized(n))
		checkHas(t, k, k, sized(n))
	}
	for n := range 16 {
		for i := range 16 {
			checkHas(t, rep("h", n)+k, k, rep("h", i)+k)
			checkHas(t, rep("h", n)+k, k, rep("h", i)+d(""))
			checkHas(t, rep("h", n)+k, rep("h", i)+k, k)
		}
	}
}

// P6.5: no term is a prefix of another one; one is determined by its kind and its parts.
func TestPrefix(t *testing.T) {
	l := append(some(68, 2000, 4, true), some(69, 1000, 6, false)...)
	slices.Sort(l)
	l = slices.Compact(l)
	for i, x := range l {
		// Sorted: a prefix of others would stand right ahead of one of them.
		if i > 0 && strings.HasPrefix(x, l[i-1]) {
			t.Fatalf("%q begins with %q", x, l[i-1])
		}
		for at := range len(x) {
			if at < 300 && term.Check(x[:at]) == api.OK {
				t.Fatalf("%q is one, and %q", x, x[:at])
			}
		}
	}
}

// rebuild: t, made again of its text or of its parts, which are made again.
func rebuild(t string) (string, api.Errno) {
	l, ok := term.Parts(t)
	if !ok {
		return "", api.ErrArg
	}
	for i, p := range l {
		x, e := rebuild(p)
		if e != api.OK {
			return "", e
		}
		l[i] = x
	}
	text, _ := term.Text(t)
	switch term.Kind(t) {
	case api.TmData:
		return term.Data(text)
	case api.TmAtom:
		return term.Atom(text)
	case api.TmRow:
		return term.Row(l...)
	case api.TmHash:
		return term.Hash(l[0])
	case api.TmMac:
		return term.Mac(l[0], l[1])
	case api.TmSeal:
		return term.Seal(l[0], l[1], l[2])
	}
	return "", api.ErrArg
}

// P6.5: rebuilding a term from its parts, and replacing a part by a new one and back.
func TestAgain(t *testing.T) {
	g := rand.New(rand.NewSource(70))
	for _, x := range append(some(71, 500, 5, true), some(72, 300, 8, false)...) {
		if y, e := rebuild(x); y != x || e != api.OK {
			t.Fatalf("%q: %q %d", x, y, int(e))
		}
		subs := term.Subs(x)
		for range 10 {
			from := subs[g.Intn(len(subs))]
			for _, to := range []string{a("new"), h(x), r(from, from), d(from), m(h(from), from), h(from)} {
				if term.Has(x, to) || term.Check(to) != api.OK {
					continue
				}
				y, e := term.Swap(x, from, to)
				if e == api.ErrLong {
					continue
				}
				if z, e := term.Swap(y, to, from); z != x || e != api.OK {
					t.Fatalf("%q, %q to %q: %q %d", x, from, to, z, int(e))
				}
			}
		}
	}
}

// share: whether two strings share a byte of memory.
func share(x, y string) bool {
	if x == "" || y == "" {
		return false
	}
	p, q := uintptr(unsafe.Pointer(unsafe.StringData(x))), uintptr(unsafe.Pointer(unsafe.StringData(y)))
	return p < q+uintptr(len(y)) && q < p+uintptr(len(x))
}

// R5: results are new memory, and the lists of two answers are two.
func TestNewMemory(t *testing.T) {
	x := r(d("some text"), a("some/name"), h(d("another text")))
	got := func() (l []string) {
		l = append(l, term.Subs(x)...)
		p, _ := term.Parts(x)
		l = append(l, p...)
		y, _ := term.Swap(x, a("other"), a("new"))
		l = append(l, y)
		y, _ = term.Swap(x, x, x)
		l = append(l, y)
		for _, leaf := range []string{d("some text"), a("some/name")} {
			text, _ := term.Text(leaf)
			if share(text, leaf) {
				t.Errorf("%q is a piece of its term", text)
			}
		}
		one := []string{x}
		y, _ = term.Row(one...)
		l = append(l, y)
		y, _ = term.Hash(x)
		return append(l, y)
	}()
	for i, y := range got {
		if share(x, y) {
			t.Errorf("result %d, %q, is a piece of the argument", i, y)
		}
	}
	p, _ := term.Parts(x)
	q, _ := term.Parts(x)
	p[0] = "x"
	if q[0] != d("some text") {
		t.Error("two answers share a list")
	}
	u, v := term.Subs(x), term.Subs(x)
	u[0] = "x"
	if v[0] != x {
		t.Error("two answers share a list")
	}
}

// The chapter's examples.
func TestExamples(t *testing.T) {
	x, e := term.Data("ab")
	if x != "d\x02ab" || e != api.OK {
		t.Error(x, e)
	}
	k, e := term.Atom("k")
	if k != "a\x01k" || e != api.OK {
		t.Error(k, e)
	}
	y, e := term.Row(x, k)
	if y != "r\x02d\x02aba\x01k" || e != api.OK || term.Size(y) != 3 || term.Depth(y) != 2 {
		t.Error(y, e)
	}
	for _, name := range []string{"K", ""} {
		if z, e := term.Atom(name); z != "" || e != api.ErrForm {
			t.Error(name, z, e)
		}
	}
	if n, e := term.Read("hd\x01"); n != 0 || e != api.ErrEnd {
		t.Error(n, e)
	}
	if z, e := term.Swap(m(a("k"), d("x")), a("k"), a("j")); z != m(a("j"), d("x")) || e != api.OK {
		t.Error(z, e)
	}
}
