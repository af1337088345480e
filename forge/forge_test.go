package forge_test

import (
	"fmt"
	"math"
	"math/rand"
	"reflect"
	"slices"
	"strconv"
	"strings"
	"sync"
	"testing"
	"unsafe"

	"chirograph/api"
	"chirograph/forge"
	"chirograph/know"
	"chirograph/octet"
	"chirograph/term"
)

// must: a term that there is.
func must(t string, e api.Errno) string {
	if e != api.OK {
		panic(e)
	}
	return t
}

func data(s string) string       { return must(term.Data(s)) }
func atom(name string) string    { return must(term.Atom(name)) }
func row(l ...string) string     { return must(term.Row(l...)) }
func hash(x string) string       { return must(term.Hash(x)) }
func mac(k, x string) string     { return must(term.Mac(k, x)) }
func seal(k, n, x string) string { return must(term.Seal(k, n, x)) }

// deep: the datum of x in so many rows, one in the other.
func deep(x string, rows int) string {
	t := data(x)
	for range rows {
		t = row(t)
	}
	return t
}

// heap: one term in which all of l stand, as rows of rows.
func heap(l ...string) string {
	for len(l) > 1 {
		var next []string
		for part := range slices.Chunk(l, api.MaxRow) {
			next = append(next, row(part...))
		}
		l = next
	}
	return l[0]
}

func atoms(prefix string, n int) []string {
	var l []string
	for i := range n {
		l = append(l, atom(prefix+strconv.FormatInt(int64(i), 36)))
	}
	return l
}

func seen(n int) api.Step         { return api.Step{Do: api.StSeen, N: n} }
func text(s string) api.Step      { return api.Step{Do: api.StData, Text: s} }
func part(a, n int) api.Step      { return api.Step{Do: api.StPart, A: a, N: n} }
func nonceOf(a int) api.Step      { return api.Step{Do: api.StNonce, A: a} }
func bodyOf(a, b int) api.Step    { return api.Step{Do: api.StBody, A: a, B: b} }
func rowOf(l ...int) api.Step     { return api.Step{Do: api.StRow, List: l} }
func hashOf(a int) api.Step       { return api.Step{Do: api.StHash, A: a} }
func macOf(a, b int) api.Step     { return api.Step{Do: api.StMac, A: a, B: b} }
func sealOf(a, b, c int) api.Step { return api.Step{Do: api.StSeal, A: a, B: b, C: c} }
func times(n int, s api.Step) []api.Step {
	return slices.Repeat([]api.Step{s}, n)
}

// sound: t if it is a term, ErrLong if not.
func sound(t string) (string, api.Errno) {
	if term.Check(t) != api.OK {
		return "", api.ErrLong
	}
	return t, api.OK
}

// unused: s without the fields that the chapter's table has for what it does; false if there is no such Do.
func unused(s api.Step) (api.Step, bool) {
	switch s.Do {
	case api.StSeen:
		s.N = 0
	case api.StData:
		s.Text = ""
	case api.StPart:
		s.A, s.N = 0, 0
	case api.StNonce, api.StHash:
		s.A = 0
	case api.StBody, api.StMac:
		s.A, s.B = 0, 0
	case api.StRow:
		s.List = nil
	case api.StSeal:
		s.A, s.B, s.C = 0, 0, 0
	default:
		return s, false
	}
	return s, true
}

// names: the steps that s, all of whose unused fields are zero, refers to.
func names(s api.Step) []int {
	switch s.Do {
	case api.StPart, api.StNonce, api.StHash:
		return []int{s.A}
	case api.StBody, api.StMac:
		return []int{s.A, s.B}
	case api.StSeal:
		return []int{s.A, s.B, s.C}
	case api.StRow:
		return s.List
	}
	return nil
}

// step: what s makes of the observed terms and those of earlier steps, as the chapter's table and contract have it; terms are put together as layer 6 writes them.
func step(observed, had []string, s api.Step) (string, api.Errno) {
	rest, ok := unused(s)
	if !ok || rest.A != 0 || rest.B != 0 || rest.C != 0 || rest.N != 0 || rest.Text != "" || len(rest.List) > 0 {
		return "", api.ErrArg
	}
	for _, ref := range names(s) {
		if ref < 0 || ref >= len(had) {
			return "", api.ErrArg
		}
	}
	switch s.Do {
	case api.StSeen:
		if s.N < 0 || s.N >= len(observed) {
			return "", api.ErrNone
		}
		if term.Check(observed[s.N]) != api.OK {
			return "", api.ErrArg
		}
		return observed[s.N], api.OK
	case api.StData:
		if len(s.Text) > 1024 {
			return "", api.ErrLong
		}
		return "d" + octet.Text(s.Text), api.OK
	case api.StRow:
		l := []string{"r", octet.Num(uint64(len(s.List)))}
		for _, ref := range s.List {
			l = append(l, had[ref])
		}
		return sound(strings.Join(l, ""))
	case api.StHash:
		return sound("h" + had[s.A])
	case api.StMac:
		return sound("m" + had[s.A] + had[s.B])
	case api.StSeal:
		return sound("s" + had[s.A] + had[s.B] + had[s.C])
	}
	return taken(had, s)
}

// taken: what s takes out of the term of an earlier step.
func taken(had []string, s api.Step) (string, api.Errno) {
	l, _ := term.Parts(had[s.A])
	letter := had[s.A][0]
	switch {
	case s.Do == api.StPart && letter != 'r', s.Do != api.StPart && letter != 's':
		return "", api.ErrType
	case s.Do == api.StPart && (s.N < 0 || s.N >= len(l)):
		return "", api.ErrNone
	case s.Do == api.StPart:
		return l[s.N], api.OK
	case s.Do == api.StNonce:
		return l[1], api.OK
	case l[0] != had[s.B]:
		return "", api.ErrTag
	}
	return l[2], api.OK
}

// model: what Terms and Run ought to return.
func model(observed []string, steps []api.Step) (had []string, at int, e api.Errno) {
	if len(steps) == 0 {
		return nil, 0, api.ErrNone
	}
	if len(steps) > 32768 {
		return nil, 0, api.ErrLong
	}
	for i, s := range steps {
		t, e := step(observed, had, s)
		if e != api.OK {
			return nil, i, e
		}
		had = append(had, t)
	}
	return had, 0, api.OK
}

// lines: terms or steps, to be read.
func lines[X any](l []X) string {
	if len(l) > 20 {
		return fmt.Sprintf("%d of them, %.200v ..", len(l), l[:3])
	}
	return fmt.Sprintf("%.600q", fmt.Sprint(l))
}

// check: Run and Terms against the model; it returns the terms.
func check(t *testing.T, observed []string, steps ...api.Step) []string {
	t.Helper()
	had, at, e := model(observed, steps)
	last := ""
	if e == api.OK {
		last = had[len(had)-1]
	}
	got, gotAt, gotE := forge.Run(observed, steps...)
	if got != last || gotAt != at || gotE != e {
		t.Errorf("observed %s, Run(%s): %.200q, %d, %d, not %.200q, %d, %d", lines(observed), lines(steps), got, gotAt, int(gotE), last, at, int(e))
	}
	if l, gotE := forge.Terms(observed, steps...); !slices.Equal(l, had) || gotE != e {
		t.Errorf("observed %s, Terms(%s): %s, %d, not %s, %d", lines(observed), lines(steps), lines(l), int(gotE), lines(had), int(e))
	}
	return had
}

// wants: check, and that the step at fails with e (or none does).
func wants(t *testing.T, observed []string, at int, e api.Errno, steps ...api.Step) {
	t.Helper()
	check(t, observed, steps...)
	if got, gotAt, gotE := forge.Run(observed, steps...); gotAt != at || gotE != e || e != api.OK && got != "" {
		t.Errorf("observed %s, Run(%s): %.200q, %d, %d, not %d, %d", lines(observed), lines(steps), got, gotAt, int(gotE), at, int(e))
	}
}

// P11.1, P11.2, P11.3: the chapter's examples.
func TestExamples(t *testing.T) {
	k, n, x := atom("k"), data("n"), atom("x")
	observed := []string{seal(k, n, x), row(k)}
	if got, at, e := forge.Run(observed, seen(0), seen(1), part(1, 0), bodyOf(0, 2)); got != x || at != 0 || e != api.OK {
		t.Errorf("%q, %d, %d", got, at, int(e))
	}
	if got, at, e := forge.Run(observed, seen(0), bodyOf(0, 0)); got != "" || at != 1 || e != api.ErrTag {
		t.Errorf("%q, %d, %d", got, at, int(e))
	}
	if l, e := forge.Terms(observed, seen(0), seen(1), part(1, 0), bodyOf(0, 2)); !slices.Equal(l, []string{observed[0], observed[1], k, x}) || e != api.OK {
		t.Errorf("%q, %d", l, int(e))
	}
	if l, e := forge.Terms(observed, seen(0), bodyOf(0, 0)); len(l) != 0 || e != api.ErrTag {
		t.Errorf("%q, %d", l, int(e))
	}
	l, ok := forge.How(observed, x)
	if got, _, e := forge.Run(observed, l...); !ok || got != x || e != api.OK {
		t.Errorf("%v, %v: %q, %d", l, ok, got, int(e))
	}
}

// P11.1, P11.2: each row of the table, with what its step makes.
func TestEachStep(t *testing.T) {
	k, n, x := atom("k"), data("n"), hash(data("x"))
	s, r := seal(k, n, x), row(k, n, x)
	observed := []string{s, r, x}
	ahead := []api.Step{seen(0), seen(1), seen(2), text("n"), part(1, 0)}
	for _, c := range []struct {
		step api.Step
		want string
	}{
		{seen(0), s}, {seen(1), r}, {seen(2), x},
		{text(""), data("")}, {text("x"), data("x")}, {text("\x00\xff"), data("\x00\xff")}, {text(strings.Repeat("x", 1024)), data(strings.Repeat("x", 1024))},
		{part(1, 0), k}, {part(1, 1), n}, {part(1, 2), x},
		{nonceOf(0), n}, {bodyOf(0, 4), x},
		{rowOf(), row()}, {rowOf(3), row(n)}, {rowOf(2, 0, 2), row(x, s, x)}, {api.Step{Do: api.StRow, List: []int{}}, row()},
		{hashOf(0), hash(s)}, {hashOf(3), hash(n)},
		{macOf(4, 3), mac(k, n)}, {macOf(3, 4), mac(n, k)}, {macOf(0, 0), mac(s, s)},
		{sealOf(4, 3, 2), seal(k, n, x)}, {sealOf(2, 4, 3), seal(x, k, n)}, {sealOf(0, 0, 0), seal(s, s, s)},
	} {
		steps := append(slices.Clone(ahead), c.step)
		if got, at, e := forge.Run(observed, steps...); got != c.want || at != 0 || e != api.OK {
			t.Errorf("%v: %q, %d, %d, not %q", c.step, got, at, int(e), c.want)
		}
		if l, e := forge.Terms(observed, steps...); !slices.Equal(l, []string{s, r, x, n, k, c.want}) || e != api.OK {
			t.Errorf("%v: %q, %d", c.step, l, int(e))
		}
	}
}

// P11.1, P11.2: no steps, and more than there may be, whatever they are.
func TestHowManySteps(t *testing.T) {
	observed := []string{data("x")}
	wants(t, observed, 0, api.ErrNone)
	wants(t, nil, 0, api.ErrNone)
	wants(t, observed, 0, api.ErrNone, []api.Step{}...)
	if api.MaxSteps != 32768 {
		t.Error(api.MaxSteps)
	}
	for _, s := range []api.Step{seen(0), text("x"), {}} {
		wants(t, observed, 0, api.ErrLong, times(32769, s)...)
		wants(t, observed, 0, api.ErrLong, times(100_000, s)...)
	}
	for _, n := range []int{1, 2, 32767, 32768} {
		wants(t, observed, 0, api.OK, times(n, seen(0))...)
		wants(t, observed, n-1, api.ErrArg, append(times(n-1, seen(0)), hashOf(n-1))...)
		if n > 1 {
			wants(t, observed, 0, api.OK, append(times(n-1, seen(0)), hashOf(n-2))...)
			wants(t, observed, 0, api.ErrArg, append([]api.Step{{}}, times(n-1, seen(0))...)...)
		}
	}
}

// all: every step of those numbers, texts and lists.
func all(numbers []int, texts []string, lists [][]int, yield func(api.Step)) {
	for _, a := range numbers {
		for _, b := range numbers {
			for _, c := range numbers {
				for _, n := range numbers {
					for _, s := range texts {
						for _, l := range lists {
							yield(api.Step{A: a, B: b, C: c, N: n, Text: s, List: l})
						}
					}
				}
			}
		}
	}
}

// P11.1: which error comes first, or none: every step of few numbers, behind terms of each kind.
func TestAllSteps(t *testing.T) {
	k, x := atom("k"), data("x")
	observed := []string{seal(k, x, row(x)), row(k, x), "no term"}
	ahead := []api.Step{seen(0), seen(1), part(1, 0), hashOf(2)}
	had, _, _ := model(observed, ahead)
	lists := [][]int{nil, {}, {0}, {3, 3}, {0, 4}, {-1, 0}}
	all([]int{-1, 0, 1, 2, 3, 4}, []string{"", "x"}, lists, func(s api.Step) {
		for do := range uint8(12) {
			s.Do = do
			want, e := step(observed, had, s)
			at := 0
			if e != api.OK {
				at = len(had)
			}
			steps := append(slices.Clip(ahead), s)
			if got, gotAt, gotE := forge.Run(observed, steps...); got != want || gotAt != at || gotE != e {
				t.Errorf("%v: %q, %d, %d, not %q, %d, %d", s, got, gotAt, int(gotE), want, at, int(e))
			}
		}
	})
}

// P11.1: what no step can have: a Do that there is not, indices of the step itself, of later ones, or of none, and something in a field that is not used.
func TestErrArg(t *testing.T) {
	k, x := atom("k"), data("x")
	observed := []string{seal(k, x, x), row(k, x)}
	ahead := []api.Step{seen(0), seen(1), part(1, 0)}
	fine := []api.Step{seen(1), text("x"), part(1, 1), nonceOf(0), bodyOf(0, 2), rowOf(0, 1), hashOf(2), macOf(2, 1), sealOf(2, 1, 0)}
	bad := func(s api.Step) {
		t.Helper()
		wants(t, observed, 3, api.ErrArg, append(slices.Clip(ahead), s)...)
		wants(t, observed, 3, api.ErrArg, append(slices.Clip(ahead), s, seen(0))...)
	}
	for i, s := range fine {
		if int(s.Do) != i+1 {
			t.Fatal(i, s)
		}
		wants(t, observed, 0, api.OK, append(slices.Clip(ahead), s)...)
		for do := 10; do < 256; do++ {
			s.Do = uint8(do)
			bad(s)
		}
		s.Do = 0
		bad(s)
	}
	for _, v := range []int{1, 2, -1, 3, math.MaxInt, math.MinInt} {
		for _, s := range fine {
			for _, field := range []*int{&s.A, &s.B, &s.C, &s.N} {
				was := *field
				*field = v
				if rest, _ := unused(s); rest.A != 0 || rest.B != 0 || rest.C != 0 || rest.N != 0 {
					bad(s)
				} else {
					check(t, observed, append(slices.Clip(ahead), s)...)
				}
				*field = was
			}
		}
	}
	for _, s := range fine {
		if s.Do != api.StData {
			s.Text = "\x00"
			bad(s)
			s.Text = strings.Repeat("x", 5000)
			bad(s)
			s.Text = ""
		}
		if s.Do != api.StRow {
			s.List = []int{0}
			bad(s)
			s.List = make([]int, 33)
			bad(s)
			s.List = []int{}
			wants(t, observed, 0, api.OK, append(slices.Clip(ahead), s)...)
		}
	}
	for _, v := range []int{3, 4, -1, math.MaxInt, math.MinInt, 1 << 32, -1 << 32} {
		for _, s := range []api.Step{part(v, 0), nonceOf(v), bodyOf(v, 2), bodyOf(0, v), hashOf(v), macOf(v, 0), macOf(0, v), sealOf(v, 0, 0), sealOf(0, v, 0), sealOf(0, 0, v), rowOf(v), rowOf(0, v), rowOf(v, 0), rowOf(0, 1, v, 2)} {
			bad(s)
		}
	}
	for _, s := range fine[2:] {
		wants(t, observed, 0, api.ErrArg, s)
	}
}

// P11.1: an observation that there is not, and one that is no term.
func TestSeen(t *testing.T) {
	wrong := []string{"", "x", "d", data("x") + "d", data("x")[:2], "a\x01K", strings.Repeat("h", 16) + data("x"), "r\x21" + strings.Repeat(data(""), 33)}
	observed := append([]string{data("x")}, wrong...)
	wants(t, observed, 0, api.OK, seen(0))
	for i := range wrong {
		wants(t, observed, 0, api.ErrArg, seen(i+1))
		wants(t, observed, 1, api.ErrArg, seen(0), seen(i+1))
	}
	for _, n := range []int{-1, len(observed), len(observed) + 1, math.MaxInt, math.MinInt, 1 << 32} {
		wants(t, observed, 0, api.ErrNone, seen(n))
		wants(t, nil, 0, api.ErrNone, seen(n))
	}
	wants(t, nil, 0, api.ErrNone, seen(0))
	wants(t, []string{}, 0, api.ErrNone, seen(0))
	// Wrong observations matter to those alone who refer to them.
	wants(t, observed, 0, api.OK, text("x"), hashOf(0), seen(0))
}

// P11.1: what is taken out of what has none of that: the type is checked before the number, and before the key.
func TestTaking(t *testing.T) {
	k, x := atom("k"), data("x")
	l := []string{x, k, row(), row(k, x), hash(x), mac(k, x), seal(k, k, x), seal(hash(k), x, x), seal(seal(k, x, x), row(x), k)}
	var ahead []api.Step
	for i := range l {
		ahead = append(ahead, seen(i))
	}
	for a := range l {
		for b := range l {
			check(t, l, append(slices.Clip(ahead), bodyOf(a, b))...)
		}
		check(t, l, append(slices.Clip(ahead), nonceOf(a))...)
		for _, n := range []int{-1, 0, 1, 2, 3, math.MaxInt, math.MinInt, 1 << 32} {
			check(t, l, append(slices.Clip(ahead), part(a, n))...)
		}
	}
	for a, is := range map[int]api.Errno{0: api.ErrType, 1: api.ErrType, 4: api.ErrType, 5: api.ErrType, 6: api.OK, 7: api.OK, 8: api.OK, 2: api.ErrType, 3: api.ErrType} {
		at := len(ahead)
		if is == api.OK {
			at = 0
		}
		wants(t, l, at, is, append(slices.Clip(ahead), nonceOf(a))...)
	}
	wants(t, l, 9, api.ErrType, append(slices.Clip(ahead), part(6, 0))...)
	wants(t, l, 9, api.ErrType, append(slices.Clip(ahead), part(0, -1))...)
	wants(t, l, 9, api.ErrNone, append(slices.Clip(ahead), part(2, 0))...)
	wants(t, l, 9, api.ErrNone, append(slices.Clip(ahead), part(3, 2))...)
	wants(t, l, 9, api.ErrNone, append(slices.Clip(ahead), part(3, -1))...)
	wants(t, l, 9, api.ErrType, append(slices.Clip(ahead), bodyOf(5, 1))...)
	wants(t, l, 9, api.ErrType, append(slices.Clip(ahead), bodyOf(3, 1))...)
	wants(t, l, 9, api.ErrTag, append(slices.Clip(ahead), bodyOf(6, 0))...)
	wants(t, l, 9, api.ErrTag, append(slices.Clip(ahead), bodyOf(7, 1))...)
	wants(t, l, 9, api.ErrTag, append(slices.Clip(ahead), bodyOf(6, 6))...)
	// A key that is made, not only one that is observed.
	wants(t, l, 0, api.OK, append(slices.Clip(ahead), hashOf(1), bodyOf(7, 9))...)
	wants(t, l, 0, api.OK, append(slices.Clip(ahead), sealOf(1, 0, 0), bodyOf(8, 9))...)
	wants(t, l, 10, api.ErrTag, append(slices.Clip(ahead), sealOf(1, 1, 0), bodyOf(8, 9))...)
}

// P11.1: results that are no terms, because they are too long, too deep, or too many: ErrLong, whichever it is.
func TestErrLong(t *testing.T) {
	wants(t, nil, 0, api.OK, text(strings.Repeat("x", 1024)))
	wants(t, nil, 0, api.ErrLong, text(strings.Repeat("x", 1025)))
	wants(t, nil, 0, api.ErrLong, text(strings.Repeat("x", 100_000)))

	wants(t, nil, 0, api.OK, text("x"), rowOf(make([]int, 32)...))
	wants(t, nil, 1, api.ErrLong, text("x"), rowOf(make([]int, 33)...))
	wants(t, nil, 1, api.ErrLong, text("x"), rowOf(make([]int, 1_000_000)...))
	wants(t, nil, 1, api.ErrArg, text("x"), rowOf(append(make([]int, 40), 1)...))

	for d := range 16 {
		observed := []string{deep("x", d)}
		at, e := 0, api.OK
		if d == 15 {
			at, e = 1, api.ErrLong
		}
		for _, s := range []api.Step{rowOf(0), hashOf(0), macOf(0, 0), sealOf(0, 0, 0)} {
			wants(t, observed, at, e, seen(0), s)
		}
		for _, s := range []api.Step{rowOf(1, 0), rowOf(0, 1), macOf(1, 0), macOf(0, 1), sealOf(0, 1, 1), sealOf(1, 0, 1), sealOf(1, 1, 0)} {
			if d == 15 {
				at = 2
			}
			wants(t, observed, at, e, seen(0), text("y"), s)
		}
	}
	var hashes []api.Step
	for i := range 20 {
		hashes = append(hashes, hashOf(i))
	}
	wants(t, nil, 16, api.ErrLong, append([]api.Step{text("x")}, hashes...)...)
}

// long: a term of that many bytes, 20 or more.
func long(n int) string {
	var l []string
	for n > 1020 {
		l = append(l, data(strings.Repeat("x", 1000)))
		n -= len(l[0])
	}
	// What is left, in two data and the row's head.
	for a := range n {
		for b := range 3 {
			if t := row(append(slices.Clip(l), data(strings.Repeat("y", a)), data(strings.Repeat("z", b)))...); len(t) == n+len(strings.Join(l, "")) {
				return t
			}
		}
	}
	panic(n)
}

// P11.1: results of MaxTerm bytes, and of more.
func TestLongest(t *testing.T) {
	for _, c := range []struct {
		extra int // bytes of the result beside those of the term
		step  api.Step
	}{{1, hashOf(0)}, {2, rowOf(0)}, {1 + 3, macOf(0, 1)}, {1 + 3, macOf(1, 0)}, {1 + 6, sealOf(0, 1, 1)}, {1 + 6, sealOf(1, 0, 1)}, {1 + 6, sealOf(1, 1, 0)}, {2 + 3, rowOf(1, 0)}} {
		for _, size := range []int{16382, 16383, 16384, 16385, 16386} {
			if size-c.extra > 16384 {
				continue
			}
			observed := []string{long(size - c.extra)}
			at, e := 0, api.OK
			if size > 16384 {
				at, e = 2, api.ErrLong
			}
			wants(t, observed, at, e, seen(0), text("y"), c.step)
			if got, _, e := forge.Run(observed, seen(0), text("y"), c.step); e == api.OK && len(got) != size {
				t.Error(len(got), size)
			}
		}
	}
	observed := []string{long(16384), long(9000), long(16384) + "x"}
	wants(t, observed, 0, api.OK, seen(0))
	wants(t, observed, 0, api.ErrArg, seen(2))
	wants(t, observed, 1, api.ErrLong, seen(0), hashOf(0))
	wants(t, observed, 1, api.ErrLong, seen(1), macOf(0, 0))
	wants(t, observed, 1, api.ErrLong, seen(1), rowOf(0, 0))
	wants(t, observed, 1, api.ErrLong, seen(0), rowOf(make([]int, 32)...))
	wants(t, observed, 0, api.OK, seen(0), part(0, 0), hashOf(1))
}

// P11.1, P11.2: the first step that fails is told, whatever comes behind it.
func TestFirstFailure(t *testing.T) {
	k, x := atom("k"), data("x")
	observed := []string{seal(k, x, x), "no term"}
	wrong := []struct {
		step api.Step
		e    api.Errno
	}{{seen(1), api.ErrArg}, {seen(2), api.ErrNone}, {part(0, 0), api.ErrType}, {bodyOf(0, 0), api.ErrTag}, {text(strings.Repeat("x", 1025)), api.ErrLong}, {api.Step{}, api.ErrArg}}
	for n := 1; n < 6; n++ {
		for _, a := range wrong {
			wants(t, observed, n, a.e, append(times(n, seen(0)), a.step)...)
			for _, b := range wrong {
				wants(t, observed, n, a.e, append(times(n, seen(0)), a.step, seen(0), b.step)...)
				wants(t, observed, n, a.e, append(times(n, seen(0)), a.step, b.step)...)
			}
		}
	}
}

// chance: something that comes by chance.
type chance struct{ *rand.Rand }

func (c chance) term(deep int) string {
	if deep == 0 || c.Intn(3) == 0 {
		return []string{atom("a"), atom("b"), atom("c"), data(""), data("x")}[c.Intn(5)]
	}
	sub := func() string { return c.term(deep - 1) }
	switch c.Intn(6) {
	case 0:
		return hash(sub())
	case 1:
		return mac(sub(), sub())
	case 2, 3:
		return seal(sub(), sub(), sub())
	}
	var l []string
	for range c.Intn(4) {
		l = append(l, sub())
	}
	return row(l...)
}

func (c chance) terms(n, deep int) []string {
	var l []string
	for range n {
		l = append(l, c.term(deep))
	}
	return l
}

// step: one of those that are likely to be done, behind so many others.
func (c chance) step(observed, done int) api.Step {
	ref := func() int { return c.Intn(done + 1) }
	switch c.Intn(10) {
	case 0, 1:
		return seen(c.Intn(observed + 1))
	case 2:
		return text([]string{"", "x", "n"}[c.Intn(3)])
	case 3:
		return part(ref(), c.Intn(3))
	case 4:
		return nonceOf(ref())
	case 5:
		return bodyOf(ref(), ref())
	case 6:
		return hashOf(ref())
	case 7:
		return macOf(ref(), ref())
	case 8:
		return sealOf(ref(), ref(), ref())
	}
	var l []int
	for range c.Intn(4) {
		l = append(l, ref())
	}
	return rowOf(l...)
}

// P11.1, P11.2, P11.4: steps by chance, kept as long as they can be done: what they make can be made in layer 10.
func TestRandomSteps(t *testing.T) {
	for seed := range int64(300) {
		c := chance{rand.New(rand.NewSource(seed))}
		observed := c.terms(1+c.Intn(4), 3)
		k := know.New()
		for _, x := range observed {
			if e := k.Learn(x); e != api.OK {
				t.Fatal(int(e))
			}
		}
		var steps []api.Step
		var had []string
		for range 60 {
			s := c.step(len(observed), len(steps))
			x, e := step(observed, had, s)
			if c.Intn(4) == 0 || e == api.OK {
				check(t, observed, append(slices.Clip(steps), s)...)
			}
			if e == api.OK {
				steps, had = append(steps, s), append(had, x)
			}
		}
		for i, x := range check(t, observed, steps...) {
			if !k.Can(x) {
				t.Errorf("observed %s, %s: step %d: %q cannot be made", lines(observed), lines(steps), i, x)
			}
			how(t, observed, x, true)
		}
	}
}

// how: that How answers as it ought to; steps are wanted if can.
func how(t *testing.T, observed []string, x string, can bool) []api.Step {
	t.Helper()
	steps, ok := forge.How(observed, x)
	if ok != can || !ok && len(steps) != 0 {
		t.Errorf("observed %s, How(%.200q): %s, %v", lines(observed), x, lines(steps), ok)
	}
	if !ok {
		return nil
	}
	if got, at, e := forge.Run(observed, steps...); got != x || at != 0 || e != api.OK {
		t.Errorf("observed %s, How(%.200q): %s, by which Run returns %.200q, %d, %d", lines(observed), x, lines(steps), got, at, int(e))
	}
	if had, at, e := model(observed, steps); e != api.OK || had[len(had)-1] != x {
		t.Errorf("observed %s, How(%.200q): %s, of which %d fails: %d", lines(observed), x, lines(steps), at, int(e))
	}
	return steps
}

// knows: the known terms of layer 10's definition, again and again until nothing is added.
type knows map[string]bool

func observe(l ...string) knows {
	k := knows{}
	for _, t := range l {
		if term.Check(t) == api.OK {
			k[t] = true
		}
	}
	for k.grow() {
	}
	return k
}

func (k knows) grow() bool {
	var more []string
	for t := range k {
		parts, _ := term.Parts(t)
		switch term.Kind(t) {
		case api.TmRow:
			more = append(more, parts...)
		case api.TmSeal:
			more = append(more, parts[1])
			if k.can(parts[0]) {
				more = append(more, parts[2])
			}
		}
	}
	before := len(k)
	for _, t := range more {
		k[t] = true
	}
	return len(k) > before
}

func (k knows) can(t string) bool {
	parts, _ := term.Parts(t)
	switch term.Kind(t) {
	case 0:
		return false
	case api.TmData:
		return true
	case api.TmAtom:
		return k[t]
	}
	return k[t] || !slices.ContainsFunc(parts, func(p string) bool { return !k.can(p) })
}

// chosen: terms that open each other, or do not.
func chosen() []string {
	a, b, c, x := atom("a"), atom("b"), atom("c"), data("x")
	return []string{
		a, b, x, row(), row(a, x), row(row(b)), hash(a), mac(a, b),
		seal(a, b, c), seal(x, x, b), seal(x, a, b), seal(b, x, a), seal(hash(a), x, b), seal(mac(a, x), x, row(c, b)),
		seal(row(a, b), x, c), seal(seal(a, b, c), x, hash(c)), seal(seal(a, x, b), x, c), seal(a, x, a), seal(hash(a), x, hash(a)),
		seal(a, x, seal(b, c, c)), seal(b, seal(a, x, c), a),
	}
}

// P11.3, P11.4: all threes of chosen observations, and what can be made of them.
func TestThrees(t *testing.T) {
	l := chosen()
	asked := append(chosen(), atom("c"), atom("d"), hash(data("")), hash(atom("c")), row(atom("a"), atom("c")), seal(atom("b"), atom("a"), atom("c")), mac(atom("a"), atom("c")))
	for _, x := range l {
		for _, y := range l {
			for _, z := range l {
				observed := []string{x, y, z}
				k := observe(observed...)
				for _, q := range asked {
					how(t, observed, q, k.can(q))
				}
			}
		}
	}
}

// P11.3, P11.4: observations by chance, with some that are no terms among them.
func TestRandomHow(t *testing.T) {
	made := 0
	for seed := range int64(1500) {
		c := chance{rand.New(rand.NewSource(seed))}
		observed := c.terms(c.Intn(7), 3)
		if c.Intn(2) == 0 {
			observed = slices.Insert(observed, c.Intn(len(observed)+1), "no term", "")
		}
		k := observe(observed...)
		asked := c.terms(20, 3)
		for _, x := range observed {
			asked = append(asked, term.Subs(x)...)
		}
		for _, x := range asked {
			if k.can(x) {
				made++
			}
			how(t, observed, x, k.can(x))
		}
	}
	if made < 1000 {
		t.Error(made)
	}
}

// P11.3: what is made without observations; what is no term; nil.
func TestHowWithoutMuch(t *testing.T) {
	for _, observed := range [][]string{nil, {}, {"no term"}, {"", "d"}, {"a\x01K"}} {
		for _, x := range []string{data(""), data(strings.Repeat("x", 1024)), row(), row(data("x"), data("x")), hash(data("x")), mac(row(), row()), seal(data(""), data("x"), data("")), deep("x", 15), long(16384)} {
			how(t, observed, x, true)
		}
		for _, x := range []string{"", "d", "x", data("x") + "x", "a\x01K", strings.Repeat("h", 16) + data("x"), atom("a"), hash(atom("a")), row(data("x"), atom("a")), long(16384) + "x"} {
			how(t, observed, x, false)
		}
	}
	// What is no term can't be made either if it was "observed".
	for _, x := range []string{"", "no term", "a\x01K", data("x") + "x"} {
		how(t, []string{x, atom("a")}, x, false)
		how(t, []string{x, atom("a")}, atom("a"), true)
	}
}

// P11.3: observations that are no terms are ignored, wherever they stand, and counted by N all the same.
func TestIgnored(t *testing.T) {
	k, x := atom("k"), atom("x")
	observed := []string{"no term", seal(k, data("n"), x), "", "d\x05abc", row(k), data("x") + "!"}
	for _, q := range []string{k, x, row(x, k), hash(x)} {
		how(t, observed, q, true)
	}
	how(t, observed, atom("y"), false)
}

// P11.3: a key that is made of its parts, is sealed under itself, or is known only by what a seal has in it.
func TestKeys(t *testing.T) {
	k, n, x := atom("k"), data("n"), atom("x")
	inner := seal(k, n, n)
	for _, c := range []struct {
		observed []string
		can      bool
	}{
		{[]string{seal(hash(k), n, x)}, false},
		{[]string{seal(hash(k), n, x), k}, true},
		{[]string{k, seal(hash(k), n, row(hash(k), x))}, true},
		{[]string{seal(hash(k), n, row(hash(k), x)), hash(k)}, true},
		{[]string{seal(hash(k), n, row(hash(k), k, x))}, false},
		{[]string{seal(inner, n, x), inner}, true},
		{[]string{seal(inner, n, row(x, inner)), k}, true},
		{[]string{seal(inner, n, x)}, false},
		{[]string{seal(row(n, n), n, x)}, true},
		{[]string{seal(data("n"), k, seal(k, n, x))}, true},
		{[]string{seal(k, k, x)}, true},
		{[]string{seal(k, seal(k, n, k), x)}, false},
		{[]string{seal(k, n, seal(k, n, seal(k, n, x))), k}, true},
		{[]string{seal(x, n, k), seal(k, n, x)}, false},
		{[]string{seal(mac(k, x), n, k), seal(k, n, x), mac(k, x)}, true},
		{[]string{seal(mac(k, x), n, k), mac(k, k), seal(k, n, x)}, false},
		{[]string{row(seal(k, n, x), hash(n)), seal(n, n, row(row(row(k))))}, true},
	} {
		if observe(c.observed...).can(x) != c.can {
			t.Fatal(c.observed)
		}
		how(t, c.observed, x, c.can)
		slices.Reverse(c.observed)
		how(t, c.observed, x, c.can)
	}
}

// P11.3: a chain of seals, each of which has the key of the next, in any order; none of it without its beginning.
func TestChain(t *testing.T) {
	for _, n := range []int{1, 2, 50, 1000} {
		keys := atoms("k", n+1)
		var l []string
		for i := range n {
			l = append(l, seal(keys[i], data("n"), keys[i+1]))
		}
		orders := [][]string{l, slices.Clone(l), slices.Clone(l)}
		slices.Reverse(orders[1])
		rand.New(rand.NewSource(1)).Shuffle(n, func(i, j int) { orders[2][i], orders[2][j] = orders[2][j], orders[2][i] })
		for _, l := range orders {
			how(t, append(slices.Clip(l), keys[0]), keys[n], true)
			how(t, append([]string{keys[0]}, l...), row(keys[n], data("x")), true)
			how(t, l, keys[n], false)
			how(t, append(slices.Clip(l), keys[n]), keys[n-1], false)
		}
	}
}

// P11.3: keys that have the one before more than once: that is made once.
func TestDoubledKeys(t *testing.T) {
	keys := atoms("k", 101)
	var l []string
	for i := range 100 {
		k := keys[i]
		l = append(l, seal(row(hash(k), mac(k, k), row(k, k)), data("n"), keys[i+1]))
	}
	if steps := how(t, append(l, keys[0]), keys[100], true); len(steps) > 1000 {
		t.Error(len(steps))
	}
	x := atom("x")
	for range 10 {
		x = row(x, x)
	}
	how(t, []string{atom("x")}, x, true)
}

// P11.3: MaxKnow listed terms have space, and one more has none, whatever is asked for.
func TestSpace(t *testing.T) {
	l := atoms("k", 2049)
	asked := []string{l[0], row(l[1], l[2]), data("x"), hash(l[2047])}
	for _, q := range asked {
		how(t, l[:2048], q, true)
		how(t, l, q, false)
		how(t, []string{heap(l[:1024]...), heap(l[1024:2048]...)}, q, true)
		how(t, []string{heap(l[:1024]...), heap(l[1024:]...)}, q, false)
		how(t, append(slices.Clip(l), "no term"), q, false)
		how(t, append(slices.Clip(l[:2048]), "no term", data("x"), row(l[:32]...)), q, true)
	}
	how(t, l[:2048], l[2048], false)
	how(t, append(slices.Clip(l[:2047]), seal(data("x"), data("n"), l[2047])), l[2047], false)
	how(t, append(slices.Clip(l[:2046]), seal(data("x"), data("n"), l[2047])), l[2047], true)
	// The first that has no space may be anywhere.
	how(t, append([]string{"no term", l[2048]}, l[:2048]...), l[0], false)
}

// P11.3: steps are enough for 10,000 positions that were observed, and for the largest term.
func TestManyPositions(t *testing.T) {
	// Keys of many different data.
	var l []string
	size := 0
	for i := 0; ; i++ {
		var key []string
		for j := range 900 {
			key = append(key, data(strconv.FormatInt(int64(i*900+j), 36)))
		}
		next := seal(heap(key...), data("n"), atom("k"+strconv.Itoa(i)))
		if size+term.Size(next) > 9_900 {
			break
		}
		size += term.Size(next)
		l = append(l, next)
	}
	var found []string
	for i := range l {
		found = append(found, atom("k"+strconv.Itoa(i)))
	}
	how(t, l, row(found...), true)
	how(t, l, row(append(slices.Clip(found), atom("x"))...), false)

	// As many different data as one term can have.
	var q []string
	for i := range 4000 {
		q = append(q, data(string([]byte{byte(128 + i/256), byte(i)})))
	}
	most := heap(q...)
	if n := term.Size(most); n < 4100 {
		t.Error(n)
	}
	how(t, l, most, true)
	// Of both, all that is different needs a step.
	steps := how(t, l, row(row(found...), heap(q[:3900]...)), true)
	if len(steps) < 13_000 || len(steps) > 32768 {
		t.Error(len(steps))
	}

	// A thousand seals, in the worst order, with keys of some parts each.
	keys := atoms("k", 1001)
	var chain []string
	for i := range 1000 {
		chain = append(chain, seal(row(data("x"), data("y"), keys[i], data("z")), data("n"), keys[i+1]))
	}
	slices.Reverse(chain)
	how(t, append(chain, keys[0]), keys[1000], true)
}

// P11.3: with more positions than that, How still ends, and has no steps that are not done, or are too many.
func TestTooManyPositions(t *testing.T) {
	var l []string
	keys := atoms("k", 41)
	for i := range 40 {
		key := []string{keys[i]}
		for j := range 950 {
			key = append(key, data(strconv.FormatInt(int64(i*950+j), 36)))
		}
		l = append(l, seal(heap(key...), data("n"), keys[i+1]))
	}
	observed := append(slices.Clip(l), keys[0])
	for _, n := range []int{1, 10, 20, 40} {
		if steps, ok := forge.How(observed, keys[n]); ok {
			how(t, observed, keys[n], true)
		} else if len(steps) > 0 {
			t.Error(len(steps))
		}
	}
	how(t, l, keys[40], false)
}

// P11.4: a term all of whose parts can be made is made; what can't be, with anything around it, isn't.
func TestAround(t *testing.T) {
	x, secret := data("x"), atom("secret")
	observed := []string{seal(secret, x, atom("y")), hash(secret), mac(secret, x)}
	around := func(s string) []string {
		return []string{s, row(s), row(x, s), hash(s), mac(s, x), mac(x, s), seal(s, x, x), seal(x, s, x), seal(x, x, s), row(row(s))}
	}
	for _, q := range around(atom("secret")) {
		// Only these three have it inside what was observed.
		how(t, observed, q, slices.Contains(observed, q))
	}
	for _, q := range around(atom("y")) {
		how(t, observed, q, false)
		how(t, append(slices.Clip(observed), secret), q, true)
	}
	for _, o := range observed {
		for _, q := range around(o) {
			how(t, observed, q, true)
		}
	}
}

// shares: whether two texts have bytes in the same memory.
func shares(a, b string) bool {
	if a == "" || b == "" {
		return false
	}
	p, q := uintptr(unsafe.Pointer(unsafe.StringData(a))), uintptr(unsafe.Pointer(unsafe.StringData(b)))
	return p < q+uintptr(len(b)) && q < p+uintptr(len(a))
}

// R5: results are new memory, and arguments are neither changed nor kept.
func TestMemory(t *testing.T) {
	k, x := atom("k"), data("xyz")
	observed := []string{seal(k, data("n"), x), row(k, x), "no term"}
	list := []int{0, 1, 3}
	steps := []api.Step{seen(0), seen(1), part(1, 0), bodyOf(0, 2), nonceOf(0), text("something"), {Do: api.StRow, List: list}, hashOf(6), macOf(2, 3), sealOf(2, 2, 2), rowOf(), seen(1)}
	wasSeen, wasSteps := slices.Clone(observed), slices.Clone(steps)
	for i := range wasSteps {
		wasSteps[i].List = slices.Clone(wasSteps[i].List)
	}
	for n := 1; n <= len(steps); n++ {
		got, _, _ := forge.Run(observed, steps[:n]...)
		for _, s := range observed {
			if shares(got, s) {
				t.Errorf("Run shares %q", got)
			}
		}
		if shares(got, steps[5].Text) {
			t.Errorf("Run shares %q", got)
		}
	}
	l, _ := forge.Terms(observed, steps...)
	for i, a := range l {
		for _, s := range append(slices.Clip(observed), steps[5].Text) {
			if shares(a, s) {
				t.Errorf("Terms shares %q", a)
			}
		}
		for _, b := range l[:i] {
			if shares(a, b) {
				t.Errorf("Terms shares %q with itself", a)
			}
		}
	}
	asked := row(x, data("another text"), row(x, x), k)
	how1, _ := forge.How(observed, asked)
	how2, _ := forge.How(observed, asked)
	if !reflect.DeepEqual(how1, how2) {
		t.Error(how1, how2)
	}
	for i, s := range how1 {
		if shares(s.Text, asked) || shares(s.Text, observed[1]) {
			t.Errorf("How shares %q", s.Text)
		}
		for j := range s.List {
			how1[i].List[j] = -1
		}
		how1[i].List = append(how1[i].List, -1, -1)
		how1[i].A = -1
	}
	how(t, observed, asked, true)
	if got, _, e := forge.Run(observed, how2...); got != asked || e != api.OK {
		t.Error(how2)
	}
	if !slices.Equal(observed, wasSeen) || !reflect.DeepEqual(steps, wasSteps) {
		t.Error("arguments are changed")
	}
}

// R2: what a step does not use is zero in what How returns, and lists have no more than they tell.
func TestZeroFields(t *testing.T) {
	for seed := range int64(200) {
		c := chance{rand.New(rand.NewSource(seed))}
		observed := c.terms(5, 3)
		for _, x := range c.terms(20, 3) {
			steps, _ := forge.How(observed, x)
			for _, s := range steps {
				rest, ok := unused(s)
				if !ok || !reflect.DeepEqual(rest, api.Step{Do: s.Do}) && len(rest.List)+len(rest.Text)+rest.A+rest.B+rest.C+rest.N != 0 {
					t.Errorf("%v", s)
				}
			}
		}
	}
}

// R6: the same again, and at the same time.
func TestSameAgain(t *testing.T) {
	c := chance{rand.New(rand.NewSource(7))}
	observed := append(chosen(), c.terms(30, 3)...)
	var asked []string
	for _, x := range observed {
		asked = append(asked, x, hash(x), row(x, x))
	}
	var want [][]api.Step
	for _, x := range asked {
		steps, _ := forge.How(observed, x)
		want = append(want, steps)
	}
	var all sync.WaitGroup
	for range 4 {
		all.Go(func() {
			for i, x := range asked {
				steps, ok := forge.How(observed, x)
				if !ok || !reflect.DeepEqual(steps, want[i]) {
					t.Errorf("%q: %v, %v", x, steps, want[i])
					continue
				}
				if got, _, e := forge.Run(observed, steps...); got != x || e != api.OK {
					t.Errorf("%q: %q", x, got)
				}
			}
		})
	}
	all.Wait()
}
