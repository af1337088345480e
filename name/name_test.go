package name_test

import (
	"fmt"
	"math"
	"math/rand"
	"slices"
	"strings"
	"sync"
	"testing"
	"unicode/utf8"
	"unsafe"

	"chirograph/api"
	"chirograph/name"
)

const (
	latin    = "abcdefghijklmnopqrstuvwxyz"
	greek    = "αβγδεζηθικλμνξοπρςστυφχψω"
	cyrillic = "абвгдежзийклмнопрстуфхцчшщъыьэюя"
	others   = "0123456789-"
	most     = 24
)

// alike: the chapter's table, a look and the runes that have it.
var alike = map[rune][]rune{
	'a': {0x3b1, 0x430},
	'b': {0x432},
	'c': {0x441},
	'e': {0x435},
	'i': {0x3b9},
	'k': {0x3ba, 0x43a},
	'm': {0x43c},
	'n': {0x3b7, 0x43d},
	'o': {0x3bf, 0x43e, 0x30},
	'p': {0x3c1, 0x440},
	't': {0x442, 0x3c4},
	'u': {0x3c5},
	'v': {0x3bd},
	'x': {0x3c7, 0x445},
	'y': {0x3b3, 0x443},
	'l': {0x31},
}

// lookOf: the look of r, by that table.
func lookOf(r rune) rune {
	for look, runes := range alike {
		if slices.Contains(runes, r) {
			return look
		}
	}
	return r
}

// runesOf: the runes of s; -1 for each byte that is not part of valid UTF-8.
func runesOf(s string) []rune {
	var l []rune
	for len(s) > 0 {
		r, n := utf8.DecodeRuneInString(s)
		if r == utf8.RuneError && n == 1 {
			r = -1
		}
		l, s = append(l, r), s[n:]
	}
	return l
}

// looksOf: the looks of the runes of s.
func looksOf(s string) []rune {
	l := runesOf(s)
	for i, r := range l {
		l[i] = lookOf(r)
	}
	return l
}

// scriptsOf: which scripts the letters among the runes are of, and whether there are runes that no name has.
func scriptsOf(runes []rune) (scripts []uint8, bad bool) {
	for _, r := range runes {
		s := uint8(api.ScNone)
		switch {
		case strings.ContainsRune(latin, r):
			s = api.ScLatin
		case strings.ContainsRune(greek, r):
			s = api.ScGreek
		case strings.ContainsRune(cyrillic, r):
			s = api.ScCyrillic
		case r < 0 || !strings.ContainsRune(others, r):
			bad = true
		}
		if s != api.ScNone && !slices.Contains(scripts, s) {
			scripts = append(scripts, s)
		}
	}
	return scripts, bad
}

// expected: what the chapter says of s as a name, read from its definitions.
func expected(s string) (api.Errno, uint8) {
	runes := runesOf(s)
	scripts, bad := scriptsOf(runes)
	switch {
	case len(runes) > most:
		return api.ErrLong, api.ScNone
	case len(runes) == 0 || bad || runes[0] == '-' || runes[len(runes)-1] == '-':
		return api.ErrForm, api.ScNone
	case len(scripts) > 1:
		return api.ErrMix, api.ScNone
	case len(scripts) == 0:
		return api.OK, api.ScNone
	}
	return api.OK, scripts[0]
}

// agrees: Check, Script and Skeleton answer what the chapter says of s.
func agrees(t *testing.T, s string) {
	t.Helper()
	e, script := expected(s)
	if got := name.Check(s); got != e {
		t.Fatalf("Check(%q): %d, not %d", s, got, e)
	}
	if got := name.Script(s); got != script {
		t.Fatalf("Script(%q): %d, not %d", s, got, script)
	}
	look := ""
	if e == api.OK {
		look = string(looksOf(s))
	}
	if got, f := name.Skeleton(s); f != e || got != look {
		t.Fatalf("Skeleton(%q): %q, %d, not %q, %d", s, got, f, look, e)
	}
}

// says: Check and Script answer e and script; so does the test's own reading.
func says(t *testing.T, s string, e api.Errno, script uint8) {
	t.Helper()
	agrees(t, s)
	if got, sc := name.Check(s), name.Script(s); got != e || sc != script {
		t.Errorf("%q: %d, script %d, not %d, script %d", s, got, sc, e, script)
	}
}

// orderOf: the order of two valid names, rune by rune.
func orderOf(a, b string) int {
	if c := slices.Compare(looksOf(a), looksOf(b)); c != 0 {
		return c
	}
	return slices.Compare(runesOf(a), runesOf(b))
}

// pairAgrees: Clash and Order answer what the chapter says of a and b.
func pairAgrees(t *testing.T, a, b string) {
	t.Helper()
	e, _ := expected(a)
	f, _ := expected(b)
	clash, order := false, 0
	if e == api.OK && f == api.OK {
		clash = a != b && slices.Equal(looksOf(a), looksOf(b))
		order = orderOf(a, b)
	}
	if got := name.Clash(a, b); got != clash {
		t.Fatalf("Clash(%q, %q): %v", a, b, got)
	}
	if got := name.Order(a, b); got != order {
		t.Fatalf("Order(%q, %q): %d, not %d", a, b, got, order)
	}
}

// wholeAlphabet: all characters that names have.
func wholeAlphabet() []rune {
	return []rune(latin + greek + cyrillic + others)
}

// words: all strings of 0 to n of the parts.
func words(parts []string, n int) []string {
	l := []string{""}
	last := l
	for range n {
		var next []string
		for _, w := range last {
			for _, p := range parts {
				next = append(next, w+p)
			}
		}
		l, last = append(l, next...), next
	}
	return l
}

// randomName: a string of up to 26 characters, most often a valid name.
func randomName(r *rand.Rand, sets []string) string {
	set := []rune(sets[r.Intn(len(sets))])
	l := make([]rune, 1+r.Intn(26))
	for i := range l {
		l[i] = set[r.Intn(len(set))]
	}
	return string(l)
}

// sampleSets: alphabets to draw names from, with and without letters of two scripts.
func sampleSets() []string {
	return []string{
		latin + others, greek + others, cyrillic + others, others, latin, greek, cyrillic,
		"acekopxy01l", "αικνορτυχ01", "авсекмнорту01", latin + greek, cyrillic + "a",
	}
}

// The numbers of the alphabets in these tests are those of the chapter.
func TestAlphabets(t *testing.T) {
	for _, x := range []struct {
		set         string
		first, last rune
	}{{latin, 97, 122}, {greek, 0x3b1, 0x3c9}, {cyrillic, 0x430, 0x44f}, {others[:10], '0', '9'}} {
		l := []rune(x.set)
		if len(l) != int(x.last-x.first)+1 {
			t.Errorf("%s: %d runes", x.set, len(l))
		}
		for i, r := range l {
			if r != x.first+rune(i) {
				t.Errorf("%s: %x at %d", x.set, r, i)
			}
		}
	}
	if api.MaxName != most {
		t.Errorf("MaxName is %d", api.MaxName)
	}
}

// P5.1, P5.2: the chapter's examples.
func TestExamples(t *testing.T) {
	says(t, "acme", api.OK, api.ScLatin)
	says(t, "\u03b1c", api.ErrMix, api.ScNone)
	says(t, "\u0430cme", api.ErrMix, api.ScNone)
	says(t, "\u043a\u043e\u0442", api.OK, api.ScCyrillic)
	says(t, "a-", api.ErrForm, api.ScNone)
	says(t, "2-3", api.OK, api.ScNone)
	if s, e := name.Skeleton("\u043a\u043e\u0442"); s != "kot" || e != api.OK {
		t.Errorf("look: %q, %d", s, e)
	}
	if !name.Clash("\u043a\u043e\u0442", "kot") || !name.Clash("kot", "\u043a\u043e\u0442") {
		t.Error("no clash with kot")
	}
}

// P5.1: each rune that there is, alone and among letters of each script.
func TestCheckOfEachRune(t *testing.T) {
	for r := rune(0); r <= utf8.MaxRune; r++ {
		if !utf8.ValidRune(r) {
			continue
		}
		near := r < 0x500 || r%251 == 0
		e, sc := expected(string(r))
		if s := string(r); name.Check(s) != e || name.Script(s) != sc {
			t.Fatalf("%x alone: %d, script %d", r, name.Check(s), name.Script(s))
		}
		if !near {
			continue
		}
		for _, about := range []string{"a", "z", "α", "ω", "а", "я", "0", "9"} {
			agrees(t, about+string(r)+about)
			agrees(t, about+string(r))
			agrees(t, string(r)+about)
		}
	}
}

// P5.1: what stands beside the letters, and letters of other forms, is in no name.
func TestCheckNearTheAlphabets(t *testing.T) {
	for _, r := range []rune{
		0, ' ', ',', '.', '/', ':', '@', 'A', 'Z', '[', '_', '`', '{', 0x7f, 0x80, 0xad, 0xe9, 0xff,
		0x391, 0x3a9, 0x3b0, 0x3ca, 0x3cc, 0x3d0, 0x410, 0x42f, 0x450, 0x451, 0x456, 0x660, 0x2010, 0x2011, 0x2013,
		0x2212, 0xff41, 0xff10, 0xff0d, 0xfffd, 0x1d41a, utf8.MaxRune,
	} {
		says(t, string(r), api.ErrForm, api.ScNone)
		says(t, "a"+string(r)+"b", api.ErrForm, api.ScNone)
	}
}

// P5.1: each two characters of names, and two with others between them.
func TestCheckOfEachPair(t *testing.T) {
	for _, a := range wholeAlphabet() {
		for _, b := range wholeAlphabet() {
			agrees(t, string(a)+string(b))
			agrees(t, string(a)+"-"+string(b))
			agrees(t, "7"+string(a)+string(b)+"7")
		}
	}
}

// P5.1: no rune, and each number of runes about MaxName, in bytes of all numbers.
func TestCheckLengths(t *testing.T) {
	says(t, "", api.ErrForm, api.ScNone)
	for _, x := range []struct {
		r      string
		script uint8
	}{{"a", api.ScLatin}, {"z", api.ScLatin}, {"ω", api.ScGreek}, {"я", api.ScCyrillic}, {"0", api.ScNone}} {
		for n := 1; n <= 100; n++ {
			if n <= most {
				says(t, strings.Repeat(x.r, n), api.OK, x.script)
			} else {
				says(t, strings.Repeat(x.r, n), api.ErrLong, api.ScNone)
			}
		}
	}
	for _, r := range []string{"-", "A", "€", "\U0001f600", "\ufffd"} {
		for n := 1; n <= 100; n++ {
			if n <= most {
				says(t, strings.Repeat(r, n), api.ErrForm, api.ScNone)
			} else {
				says(t, strings.Repeat(r, n), api.ErrLong, api.ScNone)
			}
		}
	}
	for _, n := range []int{255, 256, 257, 65535, 65536, 65560, 1<<20 + 1} {
		says(t, strings.Repeat("a", n), api.ErrLong, api.ScNone)
	}
}

// P5.1: - first, last, and elsewhere.
func TestCheckHyphens(t *testing.T) {
	for _, l := range []string{"a", "β", "в", "5"} {
		for n := range 5 {
			between := strings.Repeat("-", n)
			agrees(t, l+between+l)
			if n > 0 {
				says(t, between+l, api.ErrForm, api.ScNone)
				says(t, l+between, api.ErrForm, api.ScNone)
				says(t, between+l+between, api.ErrForm, api.ScNone)
				says(t, between, api.ErrForm, api.ScNone)
			}
		}
	}
	says(t, "a-b", api.OK, api.ScLatin)
	says(t, "a--b", api.OK, api.ScLatin)
	says(t, "1-α", api.OK, api.ScGreek)
	says(t, "я-1", api.OK, api.ScCyrillic)
	says(t, "1--2", api.OK, api.ScNone)
}

// P5.1: letters of two scripts, and of three, wherever they stand.
func TestCheckMixed(t *testing.T) {
	for _, a := range []string{"q", "ω", "ж"} {
		for _, b := range []string{"q", "ω", "ж"} {
			for n := range most - 1 {
				s := strings.Repeat("7", n) + a + strings.Repeat(a, most-2-n) + b
				agrees(t, s)
				agrees(t, a+strings.Repeat(b, n)+b)
				agrees(t, a+strings.Repeat("-", n)+b)
				if a != b {
					says(t, s, api.ErrMix, api.ScNone)
				}
			}
		}
	}
	says(t, "qωж", api.ErrMix, api.ScNone)
	says(t, "qωq", api.ErrMix, api.ScNone)
	says(t, "ωqω", api.ErrMix, api.ScNone)
	says(t, "1q-2ж", api.ErrMix, api.ScNone)
}

// P5.1: ErrLong comes before ErrForm, and that before ErrMix.
func TestCheckPrecedence(t *testing.T) {
	fill := strings.Repeat("a", most)
	for _, s := range []string{"-" + fill, fill + "-", fill + "A", "A" + fill, fill + "ж", "ж" + fill, fill + "\xff", "\xff" + fill, "A-" + fill + "ωж-"} {
		says(t, s, api.ErrLong, api.ScNone)
	}
	for _, s := range []string{"-aж", "aж-", "aAж", "aжA", "Aaж", "aж\xff", "\xffaж", "aж ", fill[2:] + "жA", fill[2:] + "ж-"} {
		says(t, s, api.ErrForm, api.ScNone)
	}
	says(t, fill[1:]+"ж", api.ErrMix, api.ScNone)
}

// P5.1: each byte that is not part of valid UTF-8 is one rune, that is in no name.
func TestCheckInvalidBytes(t *testing.T) {
	for _, x := range []struct {
		s     string
		runes int
	}{
		{"\x80", 1}, {"\xbf", 1}, {"\xc0", 1}, {"\xd0", 1}, {"\xff", 1}, {"\xfe", 1},
		{"\xc0\x80", 2}, {"\xc1\xa1", 2}, {"\xe2\x82", 2}, {"\xce\xce", 2}, {"\xff\xff", 2},
		{"\xed\xa0\x80", 3}, {"\xed\xbf\xbf", 3}, {"\xe0\x80\xaf", 3}, {"\xf0\x9f\x98", 3}, {"\xe0\x81\xa1", 3},
		{"\xf0\x80\x80\xaf", 4}, {"\xf4\x90\x80\x80", 4}, {"\xf5\x80\x80\x80", 4}, {"\xd0\x30\xb0\xd0", 4},
		{"\xd0a", 2}, {"a\xd0", 2}, {"\xb1\xce\xb1", 2}, {"\xce\xb1\xce", 2}, {"\xce\xb1\xb1", 2}, {"\xef\xbf\xbd", 1},
	} {
		for n := 0; n <= most+3; n++ {
			e := api.ErrForm
			if n+x.runes > most {
				e = api.ErrLong
			}
			says(t, strings.Repeat("a", n)+x.s, e, api.ScNone)
			says(t, x.s+strings.Repeat("a", n), e, api.ScNone)
			says(t, strings.Repeat("ж", n)+x.s, e, api.ScNone)
		}
	}
	for n := 1; n <= 60; n++ {
		agrees(t, strings.Repeat("\x80", n))
		agrees(t, strings.Repeat("\xed\xa0\x80", n))
		agrees(t, strings.Repeat("я", n)[1:])
		agrees(t, strings.Repeat("я", n)[:2*n-1])
	}
	for a := range 256 {
		agrees(t, string([]byte{byte(a)}))
		for b := range 256 {
			agrees(t, string([]byte{byte(a), byte(b)}))
		}
	}
}

// P5.1, P5.2: strings of characters of all kinds.
func TestRandomStrings(t *testing.T) {
	r := rand.New(rand.NewSource(5))
	for range 20000 {
		agrees(t, randomName(r, sampleSets()))
		b := make([]byte, r.Intn(40))
		r.Read(b)
		agrees(t, string(b))
		s := []byte(randomName(r, sampleSets()))
		s[r.Intn(len(s))] ^= 1 << r.Intn(8)
		agrees(t, string(s))
	}
}

// P5.2: the look of each rune, those that are none included.
func TestLook(t *testing.T) {
	same := func(r rune) {
		if got := name.Look(r); got != r {
			t.Fatalf("Look(%x): %x", r, got)
		}
	}
	n := 0
	for r := rune(-0x100); r < 0x3000; r++ {
		if lookOf(r) == r {
			same(r)
			continue
		}
		n++
		if got := name.Look(r); got != lookOf(r) {
			t.Errorf("Look(%x): %x, not %x", r, got, lookOf(r))
		}
	}
	if n != 25 {
		t.Errorf("%d runes have a look that is another rune", n)
	}
	for r := rune(0x3000); r < utf8.MaxRune+0x100; r += 37 {
		same(r)
	}
	for _, r := range []rune{0xd800, 0xdfff, 0xfffd, utf8.MaxRune, utf8.MaxRune + 1, math.MinInt32, math.MaxInt32, -1} {
		same(r)
	}
	for low := rune(0); low < 0x500; low++ {
		for _, high := range []rune{0x10000, 0x100000, 1 << 24, math.MinInt32} {
			same(high | low)
		}
	}
}

// P5.2: the look of a valid name, rune by rune; that of what is none is the error of Check.
func TestSkeleton(t *testing.T) {
	for _, x := range []struct{ s, look string }{
		{"acme", "acme"}, {"0", "o"}, {"1", "l"}, {"10-01", "lo-ol"}, {"2-3", "2-3"}, {"il1", "ill"},
		{greek[:24], "aβyδεζnθikλμ"}, {greek[24:], "vξoπpςσtuφxψω"},
		{cyrillic[:32], "aбbгдeжзийkлmnoп"}, {cyrillic[32:], "pctyфxцчшщъыьэюя"},
		{strings.Repeat("α", most), strings.Repeat("a", most)}, {strings.Repeat("щ", most), strings.Repeat("щ", most)},
	} {
		if got, e := name.Skeleton(x.s); got != x.look || e != api.OK {
			t.Errorf("Skeleton(%q): %q, %d, not %q", x.s, got, e, x.look)
		}
	}
	for s, want := range map[string]api.Errno{
		"": api.ErrForm, "-": api.ErrForm, "A": api.ErrForm, "\xff": api.ErrForm, "aж": api.ErrMix, strings.Repeat("a", 25): api.ErrLong,
	} {
		if got, e := name.Skeleton(s); got != "" || e != want {
			t.Errorf("Skeleton(%q): %q, %d, not %d", s, got, e, want)
		}
	}
}

// P5.2: names that look alike, within one script and across scripts; names that differ; what is none.
func TestClash(t *testing.T) {
	for _, x := range []struct{ a, b string }{
		{"kot", "кот"}, {"o", "0"}, {"0", "ο"}, {"ο", "о"}, {"1", "l"}, {"o0", "0o"}, {"a-b", "а-в"}, {"xy", "ху"}, {"χγ", "ху"},
		{"10", "lo"}, {strings.Repeat("o", most), strings.Repeat("0", most)}, {strings.Repeat("o", 23) + "0", strings.Repeat("o", most)},
	} {
		if !name.Clash(x.a, x.b) || !name.Clash(x.b, x.a) {
			t.Errorf("%q and %q do not clash", x.a, x.b)
		}
	}
	for _, x := range []struct{ a, b string }{
		{"kot", "kot"}, {"кот", "кот"}, {"0", "0"}, {"kot", "kota"}, {"kot", "ко"}, {"kot", "tok"}, {"i", "1"}, {"i", "l"},
		{"a", "b"}, {"б", "b"}, {"ь", "b"}, {"5", "s"}, {"σ", "o"}, {"ς", "с"}, {"rn", "m"}, {"a-b", "ab"}, {"", ""},
		{"-", "-"}, {"-a", "-а"}, {"a-", "а-"}, {"A", "А"}, {"аo", "ao"}, {"αο", "αо"}, {"ko\u0442", "kot"}, {"a\xff", "а\xff"},
		{strings.Repeat("o", 25), strings.Repeat("0", 25)}, {"", "a"}, {"O", "0"}, {"O", "o"},
	} {
		if name.Clash(x.a, x.b) || name.Clash(x.b, x.a) {
			t.Errorf("%q and %q clash", x.a, x.b)
		}
	}
}

// P5.2, P5.3: all pairs of short strings of chosen characters, names or not.
func TestPairs(t *testing.T) {
	parts := []string{"a", "o", "z", "0", "1", "l", "-", "α", "ο", "ω", "а", "о", "я", "A", "\xd0"}
	l := words(parts, 2)
	for _, a := range l {
		for _, b := range l {
			pairAgrees(t, a, b)
		}
	}
	r := rand.New(rand.NewSource(52))
	alphabet := wholeAlphabet()
	for _, a := range alphabet {
		for _, b := range alphabet {
			pairAgrees(t, string(a), string(b))
			pairAgrees(t, "7"+string(a), "7"+string(b))
			pairAgrees(t, string(a)+"7", string(b)+"7"+string(b))
		}
	}
	for range 50000 {
		a := randomName(r, sampleSets())
		pairAgrees(t, a, disguised(r, a))
		pairAgrees(t, a, randomName(r, sampleSets()))
		pairAgrees(t, a, a+disguised(r, a))
	}
}

// disguised: s with some runes replaced by others of the same look.
func disguised(r *rand.Rand, s string) string {
	l := []rune(s)
	for i, x := range l {
		look := lookOf(x)
		same := append([]rune{look}, alike[look]...)
		if r.Intn(3) > 0 {
			l[i] = same[r.Intn(len(same))]
		}
	}
	return string(l)
}

// P5.3: looks go first, then own runes; a proper prefix comes first; 0 for what is no name.
func TestOrder(t *testing.T) {
	for _, x := range []struct {
		a, b string
		want int
	}{
		{"a", "b", -1}, {"b", "a", 1}, {"a", "a", 0}, {"a", "ab", -1}, {"ab", "a", 1}, {"ab", "b", -1}, {"abc", "abd", -1},
		{"0", "a", 1}, {"0", "n", 1}, {"0", "p", -1}, {"0", "o", -1}, {"o", "0", 1}, {"1", "k", 1}, {"1", "l", -1}, {"1", "m", -1},
		{"1", "0", -1}, {"2", "a", -1}, {"2", "0", -1}, {"2", "1", -1}, {"a-a", "aa", -1}, {"a-a", "a2", -1},
		{"о", "o", 1}, {"ο", "о", -1}, {"о", "p", -1}, {"р", "q", -1}, {"я", "z", 1}, {"ω", "z", 1}, {"ω", "я", -1}, {"у", "z", -1},
		{"oa", "0b", -1}, {"0b", "oa", 1}, {"o", "0a", -1}, {"0a", "o", 1}, {"o0", "0o", 1}, {"0o", "o0", -1},
		{"kot", "кот", -1}, {"кот", "kota", -1}, {"кот", "kos", 1}, {"λ", "τ", 1}, {"б", "я", -1},
		{strings.Repeat("o", 24), strings.Repeat("o", 23) + "0", 1}, {strings.Repeat("o", 23), strings.Repeat("o", 24), -1},
	} {
		if got := name.Order(x.a, x.b); got != x.want {
			t.Errorf("Order(%q, %q): %d, not %d", x.a, x.b, got, x.want)
		}
		if got := name.Order(x.b, x.a); got != -x.want {
			t.Errorf("Order(%q, %q): %d, not %d", x.b, x.a, got, -x.want)
		}
	}
	for _, bad := range []string{"", "-", "a-", "-a", "A", "aж", "\xff", "a\xff", strings.Repeat("a", 25)} {
		for _, s := range append([]string{"a", "zz", "0", "я"}, bad) {
			if name.Order(bad, s) != 0 || name.Order(s, bad) != 0 {
				t.Errorf("%q and %q have an order", bad, s)
			}
		}
	}
}

// P5.4: the look of a look is itself, that of a name too where it is a name.
func TestLookOfLook(t *testing.T) {
	for r := rune(-2); r < 0x500; r++ {
		if l := name.Look(r); name.Look(l) != l {
			t.Errorf("%x", r)
		}
	}
	r := rand.New(rand.NewSource(54))
	for range 20000 {
		s, e := name.Skeleton(randomName(r, sampleSets()))
		if e != api.OK {
			continue
		}
		for _, x := range s {
			if name.Look(x) != x {
				t.Fatalf("%x in the look %q", x, s)
			}
		}
		if again, e := name.Skeleton(s); e == api.OK && again != s {
			t.Fatalf("the look of %q is %q", s, again)
		}
	}
}

// P5.4: Clash is symmetric and transitive, and names that clash are adjacent in the order of Order.
func TestClashAndOrderTogether(t *testing.T) {
	l := words([]string{"o", "0", "ο", "о", "a", "α", "p", "р", "2"}, 3)
	l = slices.DeleteFunc(l, func(s string) bool { return name.Check(s) != api.OK })
	rand.New(rand.NewSource(541)).Shuffle(len(l), func(i, j int) { l[i], l[j] = l[j], l[i] })
	slices.SortFunc(l, name.Order)
	group := make([]int, len(l)) // names that clash with the one before are in its group
	for i := 1; i < len(l); i++ {
		if name.Order(l[i-1], l[i]) != -1 {
			t.Fatalf("%q before %q", l[i-1], l[i])
		}
		group[i] = group[i-1]
		if !name.Clash(l[i-1], l[i]) {
			group[i]++
		}
	}
	clashing := 0
	for i, a := range l {
		for j, b := range l {
			want := i != j && group[i] == group[j]
			if got := name.Clash(a, b); got != want {
				t.Fatalf("Clash(%q, %q): %v", a, b, got)
			}
			if want {
				clashing++
			}
			if name.Order(a, b) != compared(i, j) {
				t.Fatalf("Order(%q, %q): %d", a, b, name.Order(a, b))
			}
		}
	}
	if clashing == 0 {
		t.Error("nothing clashes")
	}
}

func compared(i, j int) int {
	switch {
	case i < j:
		return -1
	case i > j:
		return 1
	}
	return 0
}

// P5.1 to P5.3: the same answers each time, from many goroutines too; arguments stay as they are, and a look is new memory.
func TestAnswersAreOnesOwn(t *testing.T) {
	var wait sync.WaitGroup
	told := make([]string, 8)
	for i := range told {
		wait.Go(func() {
			r := rand.New(rand.NewSource(1))
			var b strings.Builder
			for range 500 {
				x, y := randomName(r, sampleSets()), randomName(r, sampleSets())
				s, e := name.Skeleton(x)
				fmt.Fprint(&b, name.Check(x), name.Script(x), s, e, name.Clash(x, y), name.Order(x, y), "\n")
			}
			told[i] = b.String()
		})
	}
	wait.Wait()
	for _, s := range told {
		if s != told[0] {
			t.Fatal("answers differ")
		}
	}
	b := []byte("not-looked-at")
	s := unsafe.String(&b[0], len(b))
	look, e := name.Skeleton(s)
	if e != api.OK || unsafe.StringData(look) == &b[0] {
		t.Errorf("%q, %d: not new memory", look, e)
	}
	if string(b) != "not-looked-at" {
		t.Errorf("argument is now %q", b)
	}
	copy(b, "another-thing")
	if look != "not-looked-at" {
		t.Errorf("look is now %q", look)
	}
}
