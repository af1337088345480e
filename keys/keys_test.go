package keys_test

import (
	"crypto/hmac"
	"crypto/sha256"
	"fmt"
	"math"
	"math/rand"
	"slices"
	"strings"
	"sync"
	"testing"
	"unsafe"

	"chirograph/api"
	"chirograph/keys"
	"chirograph/octet"
	"chirograph/suite"
)

// key: a key of the tests' own reading of the chapter.
type key struct {
	kind      uint8
	low, high int
}

// name: the name of x, as the chapter's definitions have it.
func (x key) name() string {
	return fmt.Sprintf("%s/%d/%d", map[uint8]string{api.KyTag: "k", api.KySeal: "s"}[x.kind], x.low, x.high)
}

// all: the keys among n organisations, by the lower number, the higher one, and the kind.
func all(n int) []key {
	var l []key
	if n < 1 || n > 8 {
		return nil
	}
	for low := 0; low < n; low++ {
		for high := low; high < n; high++ {
			l = append(l, key{api.KyTag, low, high}, key{api.KySeal, low, high})
		}
	}
	return l
}

// members: the members of a set among n organisations, by a table of the bits' values.
func members(set uint8, n int) []int {
	var l []int
	for org, value := range []uint8{1, 2, 4, 8, 16, 32, 64, 128} {
		if n >= 1 && n <= 8 && org < n && int(set)%(2*int(value)) >= int(value) {
			l = append(l, org)
		}
	}
	return l
}

// numbers: what may be passed for an organisation, or for how many there are.
var numbers = []int{
	math.MinInt, math.MinInt + 1, math.MinInt32, -256, -255, -9, -8, -7, -2, -1,
	0, 1, 2, 3, 4, 5, 6, 7, 8, 9, 10, 15, 16, 17, 31, 32, 63, 64, 65, 127, 128, 255, 256, 257, 263, 264,
	math.MaxInt32, math.MaxInt32 + 1, 1 << 32, 1<<32 + 1, math.MaxInt - 1, math.MaxInt,
}

func isOrg(a int) bool { return a >= 0 && a <= 7 }

// P9.1: every two numbers, also such as are none of organisations.
func TestNames(t *testing.T) {
	for _, a := range numbers {
		for _, b := range numbers {
			tag, e := keys.Tag(a, b)
			seal, f := keys.Seal(a, b)
			want := [2]string{}
			fault := api.ErrArg
			if isOrg(a) && isOrg(b) {
				low, high := min(a, b), max(a, b)
				want = [2]string{key{api.KyTag, low, high}.name(), key{api.KySeal, low, high}.name()}
				fault = api.OK
			}
			if got := [2]string{tag, seal}; got != want || e != fault || f != fault {
				t.Errorf("Tag, Seal(%d, %d): %q %d %d, not %q %d", a, b, got, int(e), int(f), want, int(fault))
			}
		}
	}
}

// P9.1, P9.2: the chapter's examples, word for word.
func TestExamples(t *testing.T) {
	if s, e := keys.Tag(2, 0); s != "k/0/2" || e != api.OK {
		t.Error(s, int(e))
	}
	if s, e := keys.Seal(1, 1); s != "s/1/1" || e != api.OK {
		t.Error(s, int(e))
	}
	if s, e := keys.Tag(0, 8); s != "" || e != api.ErrArg {
		t.Error(s, int(e))
	}
	if l := keys.Known(1, 2); !slices.Equal(l, []string{"k/0/0", "s/0/0", "k/0/1", "s/0/1"}) {
		t.Error(l)
	}
	if l := keys.Of(1, 3); !slices.Equal(l, []string{"k/0/1", "s/0/1", "k/1/1", "s/1/1", "k/1/2", "s/1/2"}) {
		t.Error(l)
	}
}

// reads: what Read must answer, by a table of all names.
type reads map[string]key

func allReads() reads {
	r := reads{}
	for _, x := range all(8) {
		r[x.name()] = x
	}
	return r
}

func (r reads) check(t *testing.T, s string) {
	t.Helper()
	want, ok := r[s]
	kind, low, high, is := keys.Read(s)
	if got := (key{kind, low, high}); got != want || is != ok {
		t.Errorf("Read(%.60q): %v %v, not %v %v", s, got, is, want, ok)
	}
}

// P9.1: the names of all keys are read, and there are 72 of them.
func TestReadNames(t *testing.T) {
	r := allReads()
	if len(r) != 72 {
		t.Fatalf("%d names", len(r))
	}
	for s := range r {
		r.check(t, s)
	}
	for a := range 8 {
		for b := range 8 {
			tag, _ := keys.Tag(a, b)
			seal, _ := keys.Seal(a, b)
			r.check(t, tag)
			r.check(t, seal)
			for i, s := range []string{tag, seal} {
				kind, low, high, is := keys.Read(s)
				if int(kind) != [2]int{api.KyTag, api.KySeal}[i] || low != min(a, b) || high != max(a, b) || !is {
					t.Errorf("Read(%q): %d %d %d %v", s, kind, low, high, is)
				}
			}
		}
	}
}

// P9.1: what is almost a name is read only if it is another key's.
func TestReadAltered(t *testing.T) {
	r := allReads()
	for s := range allReads() {
		for at := range len(s) {
			r.check(t, s[:at])
			r.check(t, s[at:])
			r.check(t, s[:at]+s[at+1:])
			for c := range 256 {
				r.check(t, s[:at]+string([]byte{byte(c)})+s[at+1:])
				r.check(t, s[:at]+string([]byte{byte(c)})+s[at:])
			}
		}
		for c := range 256 {
			r.check(t, s+string([]byte{byte(c)}))
		}
		r.check(t, s+s)
		r.check(t, s+"\n")
		r.check(t, " "+s)
		r.check(t, strings.ToUpper(s))
		r.check(t, s+strings.Repeat("0", 1<<20))
	}
}

// P9.1: all strings of up to five characters of which names consist, and of their neighbours.
func TestReadAllStrings(t *testing.T) {
	r := allReads()
	found := 0
	var grow func(s string)
	grow = func(s string) {
		r.check(t, s)
		if _, _, _, is := keys.Read(s); is {
			found++
		}
		if len(s) == 5 {
			return
		}
		for _, c := range []byte("ks/0123456789.:-") {
			grow(s + string([]byte{c}))
		}
	}
	grow("")
	if found != 72 {
		t.Errorf("%d strings are read", found)
	}
}

// P9.1: numbers that are told otherwise than in the names.
func TestReadOthers(t *testing.T) {
	r := allReads()
	for _, s := range []string{
		"k/2/0", "s/7/6", "k/8/8", "k/0/8", "s/8/0", "k/9/9", "k/00/1", "k/0/01", "k/+0/1", "k/-1/1", "k/0/-1", "k/0/10", "k/10/1",
		"k/0x0/1", "k//1", "k/0/", "k", "k/", "k/0", "/0/1", "0/1", "k0/1", "k/01", "k.0.1", "k\\0\\1", "t/0/1", "K/0/1", "S/0/1", "a/0/1", "x/0/1",
		"\u043a/0/1", "k/\u0660/1", "k\u22150/1", "k/0/\u00b9", "key k/0/1", "$k/0/1", "k/0/1/", "/k/0/1", "k/0/1/2", "k/ 0/1", "k /0/1",
		"\x00\x00\x00\x00\x00", "\xff\xff\xff\xff\xff", "/////", "00000", "kkkkk", "sssss", "\u00e9\u00e9a", strings.Repeat("k/0/1", 100000),
	} {
		r.check(t, s)
		if _, _, _, is := keys.Read(s); is {
			t.Errorf("%.40q is read", s)
		}
	}
}

// P9.1: random strings.
func TestReadRandom(t *testing.T) {
	r := allReads()
	g := rand.New(rand.NewSource(9))
	for range 200000 {
		b := make([]byte, g.Intn(8))
		for i := range b {
			b[i] = byte(g.Intn(256))
			if g.Intn(2) == 0 {
				b[i] = "ks/01234567"[g.Intn(11)]
			}
		}
		r.check(t, string(b))
	}
}

// P9.2: the keys of every organisation, among every number of them, and of none.
func TestOf(t *testing.T) {
	for _, org := range numbers {
		for _, n := range numbers {
			var want []string
			if n >= 1 && n <= 8 && org >= 0 && org < n {
				for other := range n {
					for _, kind := range []uint8{api.KyTag, api.KySeal} {
						want = append(want, key{kind, min(org, other), max(org, other)}.name())
					}
				}
			}
			if got := keys.Of(org, n); !slices.Equal(got, want) {
				t.Errorf("Of(%d, %d): %q, not %q", org, n, got, want)
			}
		}
	}
}

// P9.2, P9.4: every set among every number of organisations: the keys of which one holder is in it, each once.
func TestKnown(t *testing.T) {
	for set := range 256 {
		for _, n := range numbers {
			in := members(uint8(set), n)
			var want []string
			for _, x := range all(n) {
				if slices.Contains(in, x.low) || slices.Contains(in, x.high) {
					want = append(want, x.name())
				}
			}
			if got := keys.Known(uint8(set), n); !slices.Equal(got, want) {
				t.Errorf("Known(%d, %d): %q, not %q", set, n, got, want)
			}
		}
	}
}

// P9.2, P9.4: what a set knows is what its members hold, and nothing else; an empty set knows nothing, a full one everything.
func TestKnownIsHeld(t *testing.T) {
	for set := range 256 {
		for n := 1; n <= 8; n++ {
			held := map[string]bool{}
			for _, org := range keys.List(uint8(set), n) {
				for _, s := range keys.Of(org, n) {
					held[s] = true
				}
			}
			known := keys.Known(uint8(set), n)
			if len(known) != len(held) {
				t.Fatalf("Known(%d, %d): %d keys, %d held", set, n, len(known), len(held))
			}
			for _, s := range known {
				if _, low, high, is := keys.Read(s); !held[s] || !is || !keys.In(uint8(set), low) && !keys.In(uint8(set), high) {
					t.Errorf("Known(%d, %d): %q", set, n, s)
				}
			}
		}
	}
	for n := 1; n <= 8; n++ {
		if l := keys.Known(0, n); len(l) != 0 {
			t.Errorf("Known(0, %d): %q", n, l)
		}
		if l := keys.Known(255, n); len(l) != n*(n+1) {
			t.Errorf("Known(255, %d): %q", n, l)
		}
	}
}

// P9.3: which organisations are in every set, and what is none.
func TestIn(t *testing.T) {
	for set := range 256 {
		in := members(uint8(set), 8)
		for _, org := range numbers {
			if got := keys.In(uint8(set), org); got != slices.Contains(in, org) {
				t.Errorf("In(%d, %d): %v", set, org, got)
			}
		}
	}
}

// P9.3: the members of every set, among every number of organisations.
func TestList(t *testing.T) {
	for set := range 256 {
		for _, n := range numbers {
			want := members(uint8(set), n)
			if got := keys.List(uint8(set), n); !slices.Equal(got, want) {
				t.Errorf("List(%d, %d): %d, not %d", set, n, got, want)
			}
		}
	}
}

// master of the suites of bytes.
const master = "the master"

// suites: a suite of each kind.
func suites(t *testing.T) []*suite.Suite {
	t.Helper()
	terms, e := suite.New(api.SuTerms, "")
	bytes, f := suite.New(api.SuBytes, master)
	if e != api.OK || f != api.OK {
		t.Fatal(int(e), int(f))
	}
	return []*suite.Suite{terms, bytes}
}

// keyOf: the key with a name in a suite of that kind, by the library.
func keyOf(kind uint8, name string) string {
	if kind == api.SuTerms {
		return "a" + octet.Text(name)
	}
	h := hmac.New(sha256.New, []byte(master))
	h.Write([]byte("key " + name))
	return "d" + octet.Text(string(h.Sum(nil)))
}

// fault: what is wrong with an atom's name, by chapter 6.
func fault(name string) api.Errno {
	switch {
	case len(name) > 32:
		return api.ErrLong
	case name == "" || strings.Trim(name, "abcdefghijklmnopqrstuvwxyz0123456789/.-") != "":
		return api.ErrForm
	}
	return api.OK
}

// checkTerms: Terms of each suite against the keys one by one.
func checkTerms(t *testing.T, z *suite.Suite, names ...string) {
	t.Helper()
	var want []string
	wrong := api.OK
	for _, name := range names {
		if e := fault(name); e != api.OK {
			want, wrong = nil, e
			break
		}
		want = append(want, keyOf(z.Kind(), name))
	}
	given := slices.Clone(names)
	got, e := keys.Terms(z, names...)
	if !slices.Equal(got, want) || e != wrong {
		t.Errorf("Terms(%.200q): %.200q %d, not %.200q %d", names, got, int(e), want, int(wrong))
	}
	if !slices.Equal(names, given) {
		t.Errorf("Terms altered its argument")
	}
}

// P9.3: the keys of all names, in a suite of each kind; no names, the same name twice, names of no key.
func TestTerms(t *testing.T) {
	for _, z := range suites(t) {
		checkTerms(t, z)
		checkTerms(t, z, []string{}...)
		for set := range 256 {
			checkTerms(t, z, keys.Known(uint8(set), 8)...)
		}
		for org := range 8 {
			checkTerms(t, z, keys.Of(org, 8)...)
		}
		checkTerms(t, z, "k/0/1", "k/0/1", "s/0/1", "k/0/1")
		checkTerms(t, z, "k/2/0", "k/8/9", "any.name-of/an/atom", strings.Repeat("n", 32))
	}
}

// P9.3: the first error of the names in their order, and nothing beside it.
func TestTermsErrors(t *testing.T) {
	long, form := strings.Repeat("n", 33), "K/0/1"
	for _, z := range suites(t) {
		for _, bad := range []string{long, form, "", " ", "\xff", "k/0/1\x00", strings.Repeat("N", 33), strings.Repeat("n", 1<<20)} {
			checkTerms(t, z, bad)
			checkTerms(t, z, "k/0/1", bad)
			checkTerms(t, z, bad, "k/0/1")
			checkTerms(t, z, "k/0/1", "s/0/1", bad, "k/1/1")
			checkTerms(t, z, bad, long, "k/0/0")
			checkTerms(t, z, bad, form)
			checkTerms(t, z, "k/0/1", long, bad)
			checkTerms(t, z, "k/0/1", form, bad)
		}
	}
}

// P9.3: a suite that is nil comes before whatever is wrong with the names.
func TestTermsNil(t *testing.T) {
	for _, names := range [][]string{nil, {}, {"k/0/1"}, {""}, {"k/0/1", "K"}, {strings.Repeat("n", 33)}} {
		if l, e := keys.Terms(nil, names...); len(l) != 0 || e != api.ErrNil {
			t.Errorf("Terms(nil, %q): %q %d", names, l, int(e))
		}
	}
}

// P9.3, R1: many names.
func TestTermsMany(t *testing.T) {
	names := slices.Repeat(keys.Known(255, 8), 500)
	for _, z := range suites(t) {
		checkTerms(t, z, names...)
		checkTerms(t, z, append(slices.Clone(names), "K")...)
	}
}

// P9.4: two organisations derive the same names, whichever of them is named first, and no other two share them.
func TestShared(t *testing.T) {
	holders := map[string][2]int{}
	for a := range 8 {
		for b := range 8 {
			for _, of := range []func(a, b int) (string, api.Errno){keys.Tag, keys.Seal} {
				s, e := of(a, b)
				other, f := of(b, a)
				if s != other || e != api.OK || f != api.OK {
					t.Errorf("%d and %d: %q, %q", a, b, s, other)
				}
				two := [2]int{min(a, b), max(a, b)}
				if had, ok := holders[s]; ok && had != two {
					t.Errorf("%q is shared by %v and %v", s, had, two)
				}
				holders[s] = two
			}
		}
	}
	if len(holders) != 72 {
		t.Errorf("%d names", len(holders))
	}
	for org := range 8 {
		for _, s := range keys.Of(org, 8) {
			if two := holders[s]; two[0] != org && two[1] != org {
				t.Errorf("%d has %q", org, s)
			}
		}
	}
}

// P9.4: no two keys of different names are equal, in a suite of either kind.
func TestKeysDiffer(t *testing.T) {
	for _, z := range suites(t) {
		l, e := keys.Terms(z, keys.Known(255, 8)...)
		if e != api.OK || len(l) != 72 {
			t.Fatal(len(l), int(e))
		}
		slices.Sort(l)
		if len(slices.Compact(l)) != 72 {
			t.Error("two keys are equal")
		}
	}
}

// apart: no two of these strings share memory.
func apart(t *testing.T, what string, l ...string) {
	t.Helper()
	seen := map[*byte]string{}
	for _, s := range l {
		p := unsafe.StringData(s)
		if had, ok := seen[p]; ok && s != "" {
			t.Errorf("%s: %q and %q share memory", what, had, s)
		}
		seen[p] = s
	}
}

// R5: results are new memory, and what is done to one shows in no later one.
func TestNewMemory(t *testing.T) {
	tag, _ := keys.Tag(1, 0)
	again, _ := keys.Tag(0, 1)
	seal, _ := keys.Seal(1, 0)
	apart(t, "names", append(append(keys.Known(255, 8), keys.Of(3, 8)...), tag, again, seal)...)
	for _, z := range suites(t) {
		names := []string{"k/0/1", "k/0/1", "s/0/1"}
		l, _ := keys.Terms(z, names...)
		more, _ := keys.Terms(z, names...)
		apart(t, "keys", append(append(l, more...), names[0])...)
	}
	known, of, list := keys.Known(3, 2), keys.Of(1, 2), keys.List(3, 2)
	clear(known)
	clear(of)
	clear(list)
	if !slices.Equal(keys.Known(3, 2), []string{"k/0/0", "s/0/0", "k/0/1", "s/0/1", "k/1/1", "s/1/1"}) ||
		!slices.Equal(keys.Of(1, 2), []string{"k/0/1", "s/0/1", "k/1/1", "s/1/1"}) || !slices.Equal(keys.List(3, 2), []int{0, 1}) {
		t.Error("a result was kept")
	}
}

// R6: the same again, and by many at once.
func TestAgain(t *testing.T) {
	z := suites(t)
	want := fmt.Sprint(answers(z))
	var wait sync.WaitGroup
	for range 8 {
		wait.Go(func() {
			for range 20 {
				if got := fmt.Sprint(answers(z)); got != want {
					t.Errorf("%s, not %s", got, want)
				}
			}
		})
	}
	wait.Wait()
}

// answers: some answers of every call.
func answers(z []*suite.Suite) []any {
	var l []any
	for n := range 10 {
		tag, e := keys.Tag(n, 3)
		seal, f := keys.Seal(3, n)
		kind, low, high, is := keys.Read(tag)
		l = append(l, tag, e, seal, f, kind, low, high, is, keys.Of(2, n), keys.Known(0x51, n), keys.In(0x51, n), keys.List(0x51, n))
		for _, s := range z {
			k, e := keys.Terms(s, tag, seal)
			l = append(l, k, e)
		}
	}
	return l
}
