package know_test

import (
	"fmt"
	"math/rand"
	"slices"
	"strconv"
	"strings"
	"sync"
	"testing"
	"unsafe"

	"chirograph/api"
	"chirograph/know"
	"chirograph/term"
)

// must: a term that there is.
func must(t string, e api.Errno) string {
	if e != api.OK {
		panic(e)
	}
	return t
}

func data(s string) string       { return must(term.Data(s)) }
func atom(name string) string    { return must(term.Atom(name)) }
func row(l ...string) string     { return must(term.Row(l...)) }
func hash(x string) string       { return must(term.Hash(x)) }
func mac(k, x string) string     { return must(term.Mac(k, x)) }
func seal(k, n, x string) string { return must(term.Seal(k, n, x)) }
func num(v int) string           { return must(term.Num(v)) }
func atoms(prefix string, n int) []string {
	var l []string
	for i := range n {
		l = append(l, atom(prefix+strconv.FormatInt(int64(i), 36)))
	}
	return l
}

// heap: one term in which all of l stand, as rows of rows.
func heap(l ...string) string {
	for len(l) > 1 {
		var next []string
		for part := range slices.Chunk(l, api.MaxRow) {
			next = append(next, row(part...))
		}
		l = next
	}
	return l[0]
}

// model: what was observed, and what is known by it, as the chapter's definitions have it, again and again until nothing is added.
type model struct{ known map[string]bool }

func observed(l ...string) model {
	m := model{map[string]bool{}}
	for _, t := range l {
		m.known[t] = true
	}
	for m.grow() {
	}
	return m
}

func (m model) grow() bool {
	var more []string
	for t := range m.known {
		parts, _ := term.Parts(t)
		switch term.Kind(t) {
		case api.TmRow:
			more = append(more, parts...)
		case api.TmSeal:
			more = append(more, parts[1])
			if m.can(parts[0]) {
				more = append(more, parts[2])
			}
		}
	}
	before := len(m.known)
	for _, t := range more {
		m.known[t] = true
	}
	return len(m.known) > before
}

func (m model) can(t string) bool {
	parts, _ := term.Parts(t)
	switch term.Kind(t) {
	case 0:
		return false
	case api.TmData:
		return true
	case api.TmAtom:
		return m.known[t]
	}
	return m.known[t] || !slices.ContainsFunc(parts, func(p string) bool { return !m.can(p) })
}

func (m model) list() []string {
	var l []string
	for t := range m.known {
		if kind := term.Kind(t); kind != api.TmData && kind != api.TmRow {
			l = append(l, t)
		}
	}
	slices.Sort(l)
	return l
}

// lines: terms, to be read.
func lines(l []string) string {
	if len(l) > 20 {
		return fmt.Sprintf("%d terms, %.200q ..", len(l), l[:3])
	}
	return fmt.Sprintf("%.600q", l)
}

// check: k against what the definitions say of seen, for each of asked.
func check(t *testing.T, k *know.Know, seen, asked []string) {
	t.Helper()
	m := observed(seen...)
	want := m.list()
	if got := k.List(); !slices.Equal(got, want) || k.Len() != len(want) {
		t.Errorf("observed %s: List %s, Len %d, not %s", lines(seen), lines(got), k.Len(), lines(want))
	}
	for _, x := range asked {
		if got := k.Can(x); got != m.can(x) {
			t.Errorf("observed %s: Can(%.200q): %v", lines(seen), x, got)
		}
	}
}

// learn: all of l, one by one.
func learn(t *testing.T, k *know.Know, l ...string) {
	t.Helper()
	for _, x := range l {
		if e := k.Learn(x); e != api.OK {
			t.Fatalf("Learn(%.200q): %d, with %d listed", x, int(e), k.Len())
		}
	}
}

// knowing: somebody who has observed l.
func knowing(t *testing.T, l ...string) *know.Know {
	t.Helper()
	k := know.New()
	learn(t, k, l...)
	return k
}

// chosen: terms among which most of what can happen does.
func chosen() []string {
	a, b, c, d := atom("a"), atom("b"), atom("c"), data("x")
	return []string{
		a, b, d, row(), row(a), row(a, b), row(row(b), d, a),
		hash(a), hash(d), hash(row(a, b)), mac(a, d), mac(d, d), mac(d, b), mac(a, b),
		seal(a, d, b), seal(b, d, a), seal(d, d, b), seal(d, b, a), seal(a, b, d), seal(a, d, a), seal(row(), d, c),
		seal(hash(a), d, b), seal(hash(b), d, a), seal(row(a, b), d, c), seal(mac(a, d), hash(b), row(c, b)), seal(a, d, hash(b)),
		seal(a, seal(b, d, c), seal(b, d, hash(c))), seal(seal(a, d, b), d, c), hash(seal(d, d, a)), mac(seal(d, d, a), row(b)), row(seal(a, d, c), b),
	}
}

// P10.1, P10.2: the chapter's example, word for word.
func TestExamples(t *testing.T) {
	a, k := atom("a"), atom("k")
	x := seal(k, num(1), a)
	w := know.New()
	learn(t, w, x)
	if w.Can(a) || w.Can(k) || !w.Can(x) || !slices.Equal(w.List(), []string{x}) || w.Len() != 1 {
		t.Error(w.Can(a), w.Can(k), w.Can(x), lines(w.List()), w.Len())
	}
	learn(t, w, row(k, num(2)))
	if !w.Can(a) || !w.Can(k) || !slices.Equal(w.List(), []string{a, k, x}) || w.Len() != 3 {
		t.Error(w.Can(a), w.Can(k), lines(w.List()), w.Len())
	}
}

// P10.1, P10.2: who has observed nothing can make what consists of data.
func TestNothing(t *testing.T) {
	k := know.New()
	check(t, k, nil, chosen())
	d := data("")
	for _, x := range []string{d, data(strings.Repeat("x", api.MaxText)), num(0), row(), row(d, row(), hash(d)), hash(row()), mac(d, d), seal(d, d, d), seal(mac(d, row()), hash(d), row(d))} {
		if !k.Can(x) {
			t.Errorf("Can(%.200q): false", x)
		}
	}
	for _, x := range []string{atom("a"), atom("d"), atom("0"), row(d, atom("a")), hash(atom("a")), mac(atom("a"), d), mac(d, atom("a")), seal(atom("a"), d, d), seal(d, atom("a"), d), seal(d, d, atom("a"))} {
		if k.Can(x) {
			t.Errorf("Can(%.200q): true", x)
		}
	}
}

// P10.1, P10.2, P10.3: all chosen terms, by twos and by threes, in each order.
func TestThrees(t *testing.T) {
	l := chosen()
	for _, x := range l {
		check(t, knowing(t, x), []string{x}, l)
		for _, y := range l {
			check(t, knowing(t, x, y), []string{x, y}, l)
			for _, z := range l {
				k := knowing(t, x, y, z)
				check(t, k, []string{x, y, z}, l)
			}
		}
	}
}

// random: a term of few atoms and data, at most so deep.
func random(g *rand.Rand, deep int) string {
	if deep == 1 || g.Intn(4) == 0 {
		if g.Intn(3) == 0 {
			return data([]string{"", "x"}[g.Intn(2)])
		}
		return atom([]string{"a", "b", "c", "ab", "k/0/1", "k/0/10"}[g.Intn(6)])
	}
	part := func() string { return random(g, deep-1) }
	switch g.Intn(8) {
	case 0, 1:
		var l []string
		for range g.Intn(4) {
			l = append(l, part())
		}
		return row(l...)
	case 2:
		return hash(part())
	case 3:
		return mac(part(), part())
	}
	return seal(part(), part(), part())
}

// P10.1, P10.2, P10.3: random observations, after each of them; what they consist of, and other terms.
func TestRandom(t *testing.T) {
	g := rand.New(rand.NewSource(10))
	for range 3000 {
		var seen, asked []string
		for range 6 {
			asked = append(asked, random(g, 4))
		}
		k := know.New()
		for range 1 + g.Intn(10) {
			x := random(g, 2+g.Intn(4))
			seen = append(seen, x)
			asked = append(asked, term.Subs(x)...)
			learn(t, k, x)
			check(t, k, seen, asked)
		}
	}
}

// P10.3: in every order, however often, the same is known.
func TestOrder(t *testing.T) {
	g := rand.New(rand.NewSource(11))
	for range 400 {
		var seen []string
		for range 12 {
			seen = append(seen, random(g, 4))
		}
		want := knowing(t, seen...).List()
		for range 6 {
			l := append(slices.Clone(seen), seen[:g.Intn(len(seen))]...)
			g.Shuffle(len(l), func(i, j int) { l[i], l[j] = l[j], l[i] })
			if got := knowing(t, l...).List(); !slices.Equal(got, want) {
				t.Errorf("observed %s: %s, not %s", lines(l), lines(got), lines(want))
			}
			if got := knowing(t, heap(l...)).List(); !slices.Equal(got, want) {
				t.Errorf("observed as a row %s: %s, not %s", lines(l), lines(got), lines(want))
			}
		}
	}
}

// P10.3: whatever is known, and every atom of what can be made, occurs in what was observed; more observations never reduce what can be made.
func TestOccurs(t *testing.T) {
	g := rand.New(rand.NewSource(12))
	for range 500 {
		var seen, asked []string
		k := know.New()
		for range 8 {
			x := random(g, 4)
			asked = append(asked, term.Subs(x)...)
			asked = append(asked, random(g, 4))
			could := slices.DeleteFunc(slices.Clone(asked), func(y string) bool { return !k.Can(y) })
			seen = append(seen, x)
			learn(t, k, x)
			occurs := func(y string) bool { return slices.ContainsFunc(seen, func(o string) bool { return term.Has(o, y) }) }
			for _, y := range k.List() {
				if !occurs(y) || !k.Can(y) {
					t.Errorf("%q is listed: %v %v", y, occurs(y), k.Can(y))
				}
			}
			for _, y := range could {
				if !k.Can(y) {
					t.Errorf("%q can be made no more", y)
				}
			}
			for _, y := range asked {
				for _, z := range term.Subs(y) {
					if k.Can(y) && term.Kind(z) == api.TmAtom && !occurs(z) {
						t.Errorf("%q can be made, and %q does not occur", y, z)
					}
				}
			}
		}
	}
}

// P10.3: what has parts that can be made can be made; to learn it changes nothing of what can be made.
func TestMade(t *testing.T) {
	g := rand.New(rand.NewSource(13))
	for range 250 {
		var asked []string
		k := know.New()
		for range 5 {
			x := random(g, 4)
			asked = append(asked, term.Subs(x)...)
			learn(t, k, x)
		}
		made := slices.DeleteFunc(slices.Clone(asked), func(y string) bool { return !k.Can(y) })
		made = append(made, row())
		one := func() string { return made[g.Intn(len(made))] }
		for range 20 {
			x, y, z := one(), one(), one()
			for _, whole := range []string{row(x, y, z), hash(x), mac(x, y), seal(x, y, z)} {
				if !k.Can(whole) {
					t.Errorf("Can(%q): false", whole)
				}
				other := k.Copy()
				learn(t, other, whole)
				for _, a := range asked {
					if k.Can(a) != other.Can(a) {
						t.Errorf("Can(%q) by learning %q: %v", a, whole, other.Can(a))
					}
				}
			}
		}
	}
}

// P10.2: nobody looks inside a hash or a mac, or inside a seal without its key, or at a seal's key.
func TestInside(t *testing.T) {
	a, b, c, d := atom("a"), atom("b"), atom("c"), data("")
	for _, x := range []string{hash(a), mac(a, d), mac(d, a), mac(a, b), seal(a, d, b), seal(a, d, a), hash(row(a)), hash(seal(d, d, a)), mac(b, seal(d, a, a)), seal(c, d, seal(d, a, b)), seal(hash(a), d, a), row(hash(a), mac(b, c))} {
		k := knowing(t, x, x)
		for _, y := range []string{a, b, c} {
			if k.Can(y) || k.Can(row(y)) || k.Can(hash(row(row(y)))) {
				t.Errorf("observed %q: Can(%q)", x, y)
			}
		}
		if !k.Can(x) || !k.Can(row(d, x)) || !k.Can(hash(x)) || !k.Can(mac(x, x)) || !k.Can(seal(x, x, x)) {
			t.Errorf("observed %q: it can't be made", x)
		}
	}
	k := knowing(t, seal(a, b, c))
	if !k.Can(b) || k.Can(a) || k.Can(c) || !slices.Equal(k.List(), []string{b, seal(a, b, c)}) {
		t.Error(lines(k.List()))
	}
	k = knowing(t, seal(c, row(a, seal(d, b, d)), c))
	if !k.Can(a) || !k.Can(b) || k.Can(c) || k.Len() != 4 {
		t.Error(lines(k.List()))
	}
}

// P10.2: seals whose keys are made of several things, which come one by one, and of things that can't be taken apart.
func TestKeys(t *testing.T) {
	a, b, c, x, d := atom("a"), atom("b"), atom("c"), atom("x"), data("")
	for _, z := range []struct {
		key  string
		with [][]string // what each of these has is enough
		not  [][]string // what each of these has is not
	}{
		{d, [][]string{{}}, nil},
		{row(), [][]string{{}}, nil},
		{hash(row(d)), [][]string{{}}, nil},
		{a, [][]string{{a}, {row(a)}, {seal(d, d, a)}, {seal(b, a, c)}, {b, seal(b, d, a)}}, [][]string{{}, {b}, {hash(a)}, {mac(a, a)}, {seal(a, d, a)}, {seal(b, d, a)}, {atom("aa")}}},
		{row(a, b), [][]string{{a, b}, {row(a, b)}, {row(b, a)}, {row(a), row(b)}, {a, seal(a, d, b)}}, [][]string{{a}, {b}, {hash(row(a, b))}, {row(a, c)}}},
		{hash(a), [][]string{{a}, {hash(a)}, {row(hash(a))}, {seal(d, d, hash(a))}, {seal(b, hash(a), b)}}, [][]string{{hash(hash(a))}, {hash(b)}, {mac(a, hash(a))}}},
		{mac(a, row(b, hash(c))), [][]string{{a, b, c}, {a, b, hash(c)}, {mac(a, row(b, hash(c)))}, {hash(c), a, b}}, [][]string{{a, b}, {a, c}, {b, c}, {hash(row(a, b, c))}, {a, row(b), mac(c, c)}}},
		{seal(a, b, c), [][]string{{seal(a, b, c)}, {a, b, c}, {c, b, a}}, [][]string{{a, b}, {seal(a, b, d)}, {seal(a, c, b)}}},
	} {
		s := seal(z.key, d, x)
		for _, l := range z.with {
			before := knowing(t, append(slices.Clone(l), s)...)
			after := knowing(t, append([]string{s}, l...)...)
			if !before.Can(x) || !after.Can(x) {
				t.Errorf("key %q, with %q: %v %v", z.key, l, before.Can(x), after.Can(x))
			}
		}
		for _, l := range z.not {
			before := knowing(t, append(slices.Clone(l), s)...)
			after := knowing(t, append([]string{s}, l...)...)
			if before.Can(x) || after.Can(x) {
				t.Errorf("key %q, with %q: %v %v", z.key, l, before.Can(x), after.Can(x))
			}
		}
	}
}

// P10.2: two seals that hide each other's keys stay closed till one key is known; a seal that hides its own key does too.
func TestRound(t *testing.T) {
	a, b, c, d := atom("a"), atom("b"), atom("c"), data("")
	k := knowing(t, seal(a, d, row(b, c)), seal(b, d, a))
	if k.Can(a) || k.Can(b) || k.Can(c) || k.Len() != 2 {
		t.Error(lines(k.List()))
	}
	other := k.Copy()
	learn(t, k, a)
	learn(t, other, b)
	if !k.Can(c) || !other.Can(c) || k.Len() != 5 || other.Len() != 5 {
		t.Error(lines(k.List()), lines(other.List()))
	}
}

// P10.4: neither a key nor what is sealed with it alone can be made, whatever is observed in which they stand behind it.
func TestSecret(t *testing.T) {
	key, x := atom("k/0"), atom("x") // which no random term has
	g := rand.New(rand.NewSource(14))
	veiled := func() string {
		switch g.Intn(4) {
		case 0:
			return seal(key, random(g, 2), row(x, random(g, 2), key))
		case 1:
			return seal(key, random(g, 2), x)
		case 2:
			return mac(key, row(random(g, 2), x))
		}
		return hash(x)
	}
	for range 300 {
		// All other keys are known.
		k := knowing(t, atom("a"), atom("b"), atom("c"), atom("ab"), atom("k/0/1"), atom("k/0/10"))
		for range 30 {
			v, r := veiled(), random(g, 3)
			learn(t, k, []string{v, row(v, r), seal(r, v, r), seal(atom("a"), r, row(r, v)), hash(v), mac(v, r), seal(v, r, v)}[g.Intn(7)])
		}
		if k.Can(key) || k.Can(x) || k.Can(row(x)) || k.Can(hash(key)) {
			t.Fatalf("key %v, secret %v, by %s", k.Can(key), k.Can(x), lines(k.List()))
		}
	}
}

// P10.4: as much as there is space for.
func TestSecretMany(t *testing.T) {
	key, x := atom("k"), atom("x")
	k := knowing(t, hash(x), mac(x, x))
	for i := range 682 {
		learn(t, k, seal(key, num(i), row(x, num(i))), mac(key, num(i)), hash(row(x, num(i))))
	}
	if k.Len() != api.MaxKnow || k.Can(x) || k.Can(key) {
		t.Error(k.Len(), k.Can(x), k.Can(key))
	}
}

// wrong: strings that are no terms.
func wrong() []string {
	a := atom("a")
	return []string{
		"", "d", "a", "r", "h", "m", "s", "x", "\x00", "d\x01", "a\x00", "a\x01A", "a\x01_", "a\x21" + strings.Repeat("a", 33), "r\x01", "r\x21", "r\x02d\x00", "h", "md\x00", "sd\x00d\x00",
		"D\x00", "q\x00", a + " ", a + a, " " + a, a[:2], row(a) + "d\x00", "r" + strings.Repeat(a, 2), "r\x00\x00", "d\xf8\x01x", "\xffd\x00",
		strings.Repeat("h", api.MaxDepth) + a, strings.Repeat("h", 1<<20), strings.Repeat("h", 1<<20) + a,
		"d" + "\xf9\x04\x01" + strings.Repeat("x", api.MaxText+1), strings.Repeat("x", 1<<20),
	}
}

// tooLong: what would be a term, but has a byte more than it may have; and one that has just as many.
func tooLong() (long, most string) {
	full := data(strings.Repeat("x", api.MaxText))
	l := slices.Repeat([]string{full}, 15)
	rest := api.MaxTerm - len(row(append(l, data(""))...))
	most = row(append(l, data(strings.Repeat("x", rest-2)))...)
	long = "h" + most
	return long, most
}

// P10.1, P10.2: what is no term is not learnt, and can't be made.
func TestWrong(t *testing.T) {
	a := atom("a")
	long, most := tooLong()
	if len(most) != api.MaxTerm || len(long) != api.MaxTerm+1 {
		t.Fatal(len(most), len(long))
	}
	for _, k := range []*know.Know{know.New(), knowing(t, a), knowing(t, a, data(""), seal(a, a, hash(a))), knowing(t, atoms("f", api.MaxKnow)...)} {
		want := k.List()
		for _, x := range append(wrong(), long) {
			if e := k.Learn(x); e != api.ErrArg {
				t.Errorf("Learn(%.40q): %d", x, int(e))
			}
			if k.Can(x) {
				t.Errorf("Can(%.40q): true", x)
			}
		}
		if !slices.Equal(k.List(), want) || k.Len() != len(want) {
			t.Errorf("%s, not %s", lines(k.List()), lines(want))
		}
		if !k.Can(most) || k.Learn(most) != api.OK || k.Len() != len(want) {
			t.Error("the longest term")
		}
	}
}

// P10.1, P10.2: the deepest terms, whose parts are all looked at.
func TestDeep(t *testing.T) {
	for _, wrap := range []func(x string) string{
		func(x string) string { return row(x) },
		hash,
		func(x string) string { return mac(data(""), x) },
		func(x string) string { return mac(x, data("")) },
		func(x string) string { return seal(data(""), data(""), x) },
		func(x string) string { return seal(data(""), x, data("")) },
		func(x string) string { return seal(x, data(""), data("")) },
	} {
		a := atom("a")
		x, z := a, data("")
		var seen []string
		for range api.MaxDepth - 1 {
			x, z = wrap(x), wrap(z)
			seen = append(seen, x)
		}
		if term.Depth(x) != api.MaxDepth {
			t.Fatal(term.Depth(x))
		}
		check(t, know.New(), nil, append(seen, a, z))
		check(t, knowing(t, x), []string{x}, append(seen, a, z))
		check(t, knowing(t, a), []string{a}, append(seen, a, z))
		check(t, knowing(t, seen...), seen, append(seen, a, z))
	}
}

// R3: whoever is nil learns nothing and can do nothing.
func TestNil(t *testing.T) {
	var k *know.Know
	for _, x := range append(wrong(), atom("a"), data(""), row()) {
		if e := k.Learn(x); e != api.ErrNil {
			t.Errorf("Learn(%.40q) of nil: %d", x, int(e))
		}
		if k.Can(x) {
			t.Errorf("Can(%.40q) of nil", x)
		}
	}
	if k.List() != nil || k.Len() != 0 || k.Copy() != nil {
		t.Error(k.List(), k.Len(), k.Copy())
	}
}

// full: k has no space for any of l, and nothing is altered by trying.
func full(t *testing.T, k *know.Know, l ...string) {
	t.Helper()
	want := k.List()
	for _, x := range l {
		var could []bool
		for _, y := range term.Subs(x) {
			could = append(could, k.Can(y))
		}
		if e := k.Learn(x); e != api.ErrFull {
			t.Errorf("Learn(%.100q): %d, with %d listed", x, int(e), k.Len())
		}
		if !slices.Equal(k.List(), want) || k.Len() != len(want) {
			t.Fatalf("Learn(%.100q): %s, not %s", x, lines(k.List()), lines(want))
		}
		for i, y := range term.Subs(x) {
			if k.Can(y) != could[i] {
				t.Errorf("Learn(%.100q): Can(%.100q): %v", x, y, k.Can(y))
			}
		}
	}
}

// P10.1: as many listed terms as there may be, and no more; what is listed already, data and rows need no space.
func TestFull(t *testing.T) {
	l := atoms("f", api.MaxKnow)
	if api.MaxKnow != 2048 {
		t.Fatal(api.MaxKnow)
	}
	k := know.New()
	for i, x := range l {
		if e := k.Learn(x); e != api.OK || k.Len() != i+1 {
			t.Fatalf("Learn(%q): %d, with %d listed", x, int(e), k.Len())
		}
	}
	n, d := atom("new"), data("x")
	full(t, k, n, row(n), row(d, n, d), hash(n), hash(l[0]), hash(d), mac(d, d), mac(l[0], l[1]), seal(d, d, d), seal(l[0], d, d), seal(n, n, n), row(l[0], row(hash(d))))
	learn(t, k, append(l, d, row(), row(d, d), row(l[0], d, row(l[1])), heap(l...))...)
	want := slices.Sorted(slices.Values(l))
	if !slices.Equal(k.List(), want) || k.Len() != api.MaxKnow {
		t.Error(lines(k.List()))
	}
	if !k.Can(hash(l[0])) || !k.Can(seal(l[0], d, l[1])) || k.Can(n) || k.Can(hash(n)) {
		t.Error("what can be made")
	}
}

// P10.1: of what has several terms all are listed, or none.
func TestFullByParts(t *testing.T) {
	a, b, c, d := atom("a"), atom("b"), atom("c"), data("")
	for _, x := range []struct {
		t string
		n int // how many terms are listed by it
	}{
		{a, 1}, {row(a, b), 2}, {row(a, a, d, row(a)), 1}, {row(hash(a), mac(a, b), row(c), d), 3}, {hash(row(a, b, c)), 1},
		{seal(a, d, b), 1}, {seal(a, b, c), 2}, {seal(d, a, b), 3}, {seal(d, row(a, b), c), 4}, {seal(a, seal(b, c, d), d), 3}, {seal(d, d, seal(d, d, seal(d, d, row(a, b)))), 5},
		{row(seal(a, d, b), a), 3}, {row(a, seal(a, d, b)), 3}, {row(seal(a, d, b), seal(b, d, c)), 2}, {row(seal(a, d, b), seal(b, d, c), a), 5}, {row(a, seal(hash(a), b, seal(b, d, row(c, a)))), 5},
	} {
		if n := knowing(t, x.t).Len(); n != x.n {
			t.Fatalf("%q: %d terms", x.t, n)
		}
		k := knowing(t, atoms("f", api.MaxKnow-x.n)...)
		less := k.Copy()
		learn(t, k, x.t, x.t)
		if k.Len() != api.MaxKnow {
			t.Errorf("%q: %d listed", x.t, k.Len())
		}
		for n := range x.n {
			more := less.Copy()
			learn(t, more, atoms("g", n+1)...)
			full(t, more, x.t)
			check(t, more, append(atoms("f", api.MaxKnow-x.n), atoms("g", n+1)...), []string{a, b, c, row(a, b), hash(a), x.t})
		}
	}
}

// P10.1: a key that opens more than there is space for is not learnt, nor anything that it opens, at whichever seal that shows.
func TestFullByOpening(t *testing.T) {
	d := data("")
	key := atoms("k", 5)
	chain := []string{seal(key[0], d, row(key[1], atom("x"))), seal(key[1], d, row(key[2], seal(key[2], d, key[3]))), seal(key[3], d, row(key[4], atom("y")))}
	all := append([]string{key[0]}, chain...)
	have := knowing(t, all...).Len()
	if have != 11 {
		t.Fatal(have)
	}
	for spare := range 8 {
		others := atoms("f", api.MaxKnow-have+spare)
		k := knowing(t, append(slices.Clone(chain), others...)...)
		seen := append(slices.Clone(chain), others...)
		if spare == 0 {
			learn(t, k, key[0])
			check(t, k, append(seen, key[0]), append(slices.Clone(key), atom("x"), atom("y")))
			if k.Len() != api.MaxKnow {
				t.Error(k.Len())
			}
			continue
		}
		full(t, k, key[0], row(key[0]))
		check(t, k, seen, append(slices.Clone(key), atom("x"), atom("y")))
		// With a key further on there is less that is opened.
		if e := k.Learn(key[3]); (e == api.OK) != (spare <= 5) || e != api.OK && e != api.ErrFull {
			t.Errorf("spare %d: %d", spare, int(e))
		} else if e == api.OK {
			check(t, k, append(seen, key[3]), append(slices.Clone(key), atom("x"), atom("y")))
		}
	}
}

// P10.1: after an ErrFull everything goes on as if that had not been: also what was opened is closed again.
func TestAfterFull(t *testing.T) {
	d, a, b := data(""), atom("a"), atom("b")
	big := atoms("g", 40)
	k := knowing(t, append(atoms("f", api.MaxKnow-6), seal(a, d, row(b, heap(big...))), seal(b, d, atom("x")), seal(row(a, d), d, atom("y")))...)
	full(t, k, a, row(a), row(a, b), row(b, a))
	learn(t, k, b)
	if k.Can(a) || !k.Can(atom("x")) || k.Can(atom("y")) || k.Len() != api.MaxKnow-1 {
		t.Error(k.Can(a), k.Can(atom("x")), k.Can(atom("y")), k.Len())
	}
	full(t, k, a)
	learn(t, k, atom("last"))
	full(t, k, a, atom("one-more"))
	// A seal that is opened where there is space, and its copy where there is none.
	k = knowing(t, seal(a, d, row(b, atom("c"))))
	other := k.Copy()
	learn(t, other, atoms("f", api.MaxKnow-3)...)
	full(t, other, a)
	learn(t, k, a)
	if !k.Can(b) || other.Can(b) || k.Len() != 4 {
		t.Error(k.Can(b), other.Can(b), k.Len())
	}
}

// P10.1: one term that has as many listed terms as there may be, and one that has more.
func TestFullAtOnce(t *testing.T) {
	l := atoms("", api.MaxKnow+1)
	k := know.New()
	full(t, k, heap(l...), seal(data(""), data(""), heap(l[1:]...)))
	if k.Len() != 0 || k.Can(l[0]) {
		t.Error(k.Len())
	}
	learn(t, k, heap(l[1:]...))
	if !slices.Equal(k.List(), slices.Sorted(slices.Values(l[1:]))) || k.Can(l[0]) {
		t.Error(lines(k.List()))
	}
	full(t, k, heap(l...), l[0])
}

// P10.1, R1: a key that opens some hundred seals of thousands of atoms each.
func TestFullByMany(t *testing.T) {
	key, d := atom("k"), data("")
	k := know.New()
	for i := range 400 {
		learn(t, k, seal(key, d, heap(atoms("n"+strconv.Itoa(100+i), 1800)...)))
	}
	full(t, k, key, row(key))
	if k.Len() != 400 || k.Can(atom("n1000")) || !k.Can(hash(d)) {
		t.Error(k.Len())
	}
	learn(t, k, atom("n1000"))
}

// keysOf: such keys as this gives, for as many seals.
func keysOf(n int, of func(i int) string) []string {
	var l []string
	for i := range n {
		l = append(l, of(i))
	}
	return l
}

// P10.3, R1: each seal hides the next one's key: from the first key on all are opened, in whichever order they came.
func TestChain(t *testing.T) {
	const n = 1000
	for _, keys := range [][]string{
		keysOf(n+1, func(i int) string { return atom("k" + strconv.Itoa(i)) }),
		keysOf(n+1, func(i int) string { return hash(row(atom("k"), num(i))) }),
		keysOf(n+1, func(i int) string { return mac(atom("k"), hash(num(i))) }),
	} {
		var seals []string
		for i := range n {
			seals = append(seals, seal(keys[i], num(i), keys[i+1]))
		}
		forth, back, mixed := know.New(), know.New(), know.New()
		learn(t, forth, append([]string{keys[0]}, seals...)...)
		slices.Reverse(seals)
		learn(t, back, append([]string{keys[0]}, seals...)...)
		rand.New(rand.NewSource(15)).Shuffle(n, func(i, j int) { seals[i], seals[j] = seals[j], seals[i] })
		learn(t, mixed, seals...)
		if mixed.Len() != n || mixed.Can(keys[0]) || mixed.Can(keys[n]) {
			t.Error(mixed.Len())
		}
		learn(t, mixed, keys[0])
		for _, k := range []*know.Know{forth, back, mixed} {
			if k.Len() != 2*n+1 || !k.Can(row(keys[0], keys[n/2], keys[n])) || !slices.Equal(k.List(), forth.List()) {
				t.Errorf("%d listed", k.Len())
			}
		}
	}
}

// P10.2: the terms are in the order of their bytes.
func TestListOrder(t *testing.T) {
	l := []string{atom("b"), atom("a"), atom("ab"), atom("-"), hash(data("\xff")), hash(data("")), mac(data("b"), data("")), mac(data("a"), data("")), seal(atom("z"), data(""), data("")), hash(atom("a")), atom("aa"), atom("0")}
	want := []string{atom("-"), atom("0"), atom("a"), atom("b"), atom("aa"), atom("ab"), hash(atom("a")), hash(data("")), hash(data("\xff")), mac(data("a"), data("")), mac(data("b"), data("")), seal(atom("z"), data(""), data(""))}
	for range 20 {
		if got := knowing(t, l...).List(); !slices.Equal(got, want) {
			t.Fatalf("%s, not %s", lines(got), lines(want))
		}
	}
}

// P10.1: a copy has observed the same, and goes its own way, as does a copy of it.
func TestCopy(t *testing.T) {
	g := rand.New(rand.NewSource(16))
	for range 500 {
		var seen []string
		for range g.Intn(8) {
			seen = append(seen, random(g, 4))
		}
		k := knowing(t, seen...)
		one := k.Copy()
		two := one.Copy()
		x, y := random(g, 4), random(g, 4)
		learn(t, k, x)
		learn(t, one, y)
		asked := append(append(chosen(), term.Subs(x)...), term.Subs(y)...)
		check(t, two, seen, asked)
		check(t, one, append(slices.Clone(seen), y), asked)
		check(t, k, append(slices.Clone(seen), x), asked)
		learn(t, two, x, y)
		check(t, two, append(slices.Clone(seen), x, y), asked)
		check(t, k, append(slices.Clone(seen), x), asked)
	}
	k := know.New()
	other := k.Copy()
	learn(t, other, atom("a"))
	if k.Len() != 0 || other.Len() != 1 || know.New().Len() != 0 {
		t.Error(k.Len(), other.Len())
	}
	k = knowing(t, atoms("f", api.MaxKnow)...)
	other = k.Copy()
	full(t, other, atom("a"))
	if !slices.Equal(k.List(), other.List()) {
		t.Error("a full one")
	}
}

// R5: what is passed is neither altered nor kept, and what is returned is new.
func TestMemory(t *testing.T) {
	a, b, c := atom("a"), atom("b"), atom("c")
	for _, x := range []string{a, row(a, b), hash(a), mac(a, b), seal(a, b, c), row(seal(a, b, c), a), seal(data(""), a, row(b, hash(c)))} {
		bytes := []byte(x)
		given := unsafe.String(&bytes[0], len(bytes))
		k := know.New()
		learn(t, k, given)
		if given != x || !k.Can(given) || given != x {
			t.Errorf("%q became %q", x, given)
		}
		clear(bytes)
		check(t, k, []string{x}, []string{a, b, c, x, hash(c)})
		learn(t, k, c, b, a)
		check(t, k, []string{x, a, b, c}, []string{a, b, c, x, hash(c)})
		kept := map[*byte]bool{}
		for range 3 {
			l := k.List()
			for _, s := range append(l, k.Copy().List()...) {
				p := unsafe.StringData(s)
				if kept[p] {
					t.Errorf("%q is handed out twice", s)
				}
				kept[p] = true
			}
			clear(l)
		}
		check(t, k, []string{x, a, b, c}, nil)
	}
}

// R6: the same again, and by many at once, each with its own.
func TestAgain(t *testing.T) {
	want := answers()
	var wait sync.WaitGroup
	for range 8 {
		wait.Go(func() {
			for range 5 {
				if got := answers(); got != want {
					t.Errorf("%s, not %s", got, want)
				}
			}
		})
	}
	wait.Wait()
}

// answers: some answers of every call.
func answers() string {
	g := rand.New(rand.NewSource(17))
	k := know.New()
	var l []any
	for range 60 {
		x := random(g, 4)
		l = append(l, k.Can(x), k.Learn(x), k.Can(x), k.Len(), k.Copy().Learn(random(g, 3)))
	}
	return fmt.Sprint(append(l, k.Learn(""), k.Can(""), k.List()))
}
