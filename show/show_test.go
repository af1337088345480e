package show_test

import (
	"fmt"
	"math"
	"math/rand"
	"slices"
	"strings"
	"testing"
	"unicode/utf8"

	"chirograph/api"
	"chirograph/octet"
	"chirograph/show"
	"chirograph/term"
)

// node is a term as the tests have it: a letter of its kind, and its text or its parts.
type node struct {
	letter string
	text   string
	parts  []*node
}

func d(s string) *node           { return &node{letter: "d", text: s} }
func a(s string) *node           { return &node{letter: "a", text: s} }
func r(l ...*node) *node         { return &node{letter: "r", parts: l} }
func h(t *node) *node            { return &node{letter: "h", parts: []*node{t}} }
func m(k, t *node) *node         { return &node{letter: "m", parts: []*node{k, t}} }
func s(k, n, t *node) *node      { return &node{letter: "s", parts: []*node{k, n, t}} }
func rep(s string, n int) string { return strings.Repeat(s, n) }

// hashes: x in that many hashes.
func hashes(n int, x *node) *node {
	for range n {
		x = h(x)
	}
	return x
}

// times: a row of x that many times.
func times(n int, x *node) *node { return r(slices.Repeat([]*node{x}, n)...) }

// bytes: the term itself.
func (x *node) bytes() string {
	switch x.letter {
	case "d", "a":
		return x.letter + octet.Text(x.text)
	}
	t := x.letter
	if t == "r" {
		t += octet.Num(uint64(len(x.parts)))
	}
	for _, p := range x.parts {
		t += p.bytes()
	}
	return t
}

// line: its line, as the chapter lays it down, with dots for what is deeper than deep.
func (x *node) line(deep int) string {
	if deep <= 0 {
		return ".."
	}
	var l []string
	for _, p := range x.parts {
		l = append(l, p.line(deep-1))
	}
	lines := strings.Join(l, ", ")
	switch x.letter {
	case "d":
		if plain(x.text) {
			return "\"" + x.text + "\""
		}
		return fmt.Sprintf("x%x", x.text)
	case "a":
		return "$" + x.text
	case "r":
		return "[" + lines + "]"
	}
	return x.letter + "(" + lines + ")"
}

// atoms: the names in it that are not in l, behind l.
func (x *node) atoms(l []string) []string {
	if x.letter == "a" && !slices.Contains(l, x.text) {
		l = append(l, x.text)
	}
	for _, p := range x.parts {
		l = p.atoms(l)
	}
	return l
}

// plainRune: whether the chapter has it as plain.
func plainRune(c rune) bool {
	return c >= 0x20 && c <= 0x7e && c != 0x22 || c >= 0xa1 && c <= 0x2af || c >= 0x370 && c <= 0x4ff
}

// plain: whether all of it is.
func plain(s string) bool {
	return utf8.ValidString(s) && strings.IndexFunc(s, func(c rune) bool { return !plainRune(c) }) < 0
}

// checkNode: every call with the term of x against the tests' own answers.
func checkNode(t *testing.T, x *node) {
	t.Helper()
	b, line := x.bytes(), x.line(16)
	if got, e := show.Line(b); got != line || e != api.OK {
		t.Fatalf("Line(%.80q): %.80q %d, not %.80q", b, got, int(e), line)
	}
	if got, e := show.Parse(line); got != b || e != api.OK {
		t.Fatalf("Parse(%.80q): %.80q %d, not %.80q", line, got, int(e), b)
	}
	for _, deep := range []int{math.MinInt, math.MinInt32, -1, 0, 1, 2, 3, 4, 5, 14, 15, 16, 17, 1 << 32, math.MaxInt} {
		if got, e := show.Brief(b, deep); got != x.line(min(deep, 99)) || e != api.OK {
			t.Fatalf("Brief(%.80q, %d): %.80q %d", b, deep, got, int(e))
		}
	}
	if got, want := show.Atoms(b), x.atoms(nil); !slices.Equal(got, want) {
		t.Fatalf("Atoms(%.80q): %q, not %q", b, got, want)
	}
	if n := show.Width(line); n > len(line) || n != utf8.RuneCountInString(line) {
		t.Fatalf("Width(%.80q): %d", line, n)
	}
}

// checkParse: whatever line is, Parse answers a term with just this line, or ErrForm; it tells which.
func checkParse(t *testing.T, line string) bool {
	t.Helper()
	x, e := show.Parse(line)
	if e == api.OK {
		if got, f := show.Line(x); got != line || f != api.OK {
			t.Fatalf("Parse(%.80q): %.80q, of which the line is %.80q %d", line, x, got, int(f))
		}
		return true
	}
	if x != "" || e != api.ErrForm {
		t.Fatalf("Parse(%.80q): %.80q %d", line, x, int(e))
	}
	return false
}

// P7.1, P7.2: the chapter's examples, and one of each kind.
func TestExamples(t *testing.T) {
	tag := m(a("k/0/1"), r(d("ab"), d("\x00")))
	for _, x := range []struct {
		term *node
		line string
	}{
		{tag, `m($k/0/1, ["ab", x00])`},
		{d(""), `""`},
		{d("\u03b1"), "\"\u03b1\""},
		{d("a b"), `"a b"`},
		{d("\""), "x22"},
		{d("a\"b"), "x612262"},
		{d("\n"), "x0a"},
		{d("\xff\xAB\x09"), "xffab09"},
		{d("\u20ac"), "xe282ac"},
		{d("x00"), `"x00"`},
		{d(", $k]"), `", $k]"`},
		{d("\\"), `"\"`},
		{a("a-z.0/9"), "$a-z.0/9"},
		{a("x00"), "$x00"},
		{r(), "[]"},
		{r(r()), "[[]]"},
		{r(d("")), `[""]`},
		{r(a("h"), a("m"), a("s")), "[$h, $m, $s]"},
		{h(r()), "h([])"},
		{s(a("k"), d("\x01"), h(a("j"))), "s($k, x01, h($j))"},
	} {
		if line, e := show.Line(x.term.bytes()); line != x.line || e != api.OK {
			t.Errorf("%q: %q %d, not %q", x.term.bytes(), line, int(e), x.line)
		}
		checkNode(t, x.term)
	}
	for deep, want := range []string{"..", "m(.., ..)", "m($k/0/1, [.., ..])", `m($k/0/1, ["ab", x00])`} {
		if line, e := show.Brief(tag.bytes(), deep); line != want || e != api.OK {
			t.Errorf("Brief %d: %q %d, not %q", deep, line, int(e), want)
		}
	}
	for line, n := range map[string]int{"": 0, "ab": 2, "\u03b1": 1, "\xff\xfe": 2, "\xe2\x82": 2, "\xe2\x82\xac\xac": 2, "\xed\xa0\x80": 3, "\U0001f600": 1, "\u0301": 1, "\x00\n": 2, "\xc0\x80": 2, "\xf4\x90\x80\x80": 4} {
		if got := show.Width(line); got != n {
			t.Errorf("Width(%q): %d, not %d", line, got, n)
		}
	}
}

// wrong are strings that are no terms.
func wrong() []string {
	return []string{"", "x", "d", "d\x00x", "d\x00d\x00", "a\x00", "a\x01K", "h", "r\x01", "r\x01a\x01k!", "md\x00", hashes(16, d("")).bytes(), times(33, r()).bytes(), d(rep("x", 1025)).bytes(), a(rep("k", 33)).bytes(), times(32, d(rep("x", 509))).bytes(), `""`, "[]", "$k"}
}

// P7.1, P7.2: what is no term has no line, however little of it is to be shown, and no atoms.
func TestNoTerm(t *testing.T) {
	for _, x := range wrong() {
		if line, e := show.Line(x); line != "" || e != api.ErrArg {
			t.Errorf("Line(%.40q): %.40q %d", x, line, int(e))
		}
		for _, deep := range []int{math.MinInt, -1, 0, 1, 2, 16, 17, math.MaxInt} {
			if line, e := show.Brief(x, deep); line != "" || e != api.ErrArg {
				t.Errorf("Brief(%.40q, %d): %.40q %d", x, deep, line, int(e))
			}
		}
		if l := show.Atoms(x); len(l) != 0 {
			t.Errorf("Atoms(%.40q): %q", x, l)
		}
	}
}

// P7.2: every character, and what is none.
func TestPlain(t *testing.T) {
	for c := rune(0); c <= utf8.MaxRune; c++ {
		if !utf8.ValidRune(c) {
			continue
		}
		x := string(c)
		for _, s := range []string{x, "a" + x, x + "a", "\u03b1" + x + "\u04ff"} {
			if show.Plain(s) != plainRune(c) {
				t.Fatalf("Plain(%q): %v", s, !plainRune(c))
			}
		}
		if show.Width(x) != 1 {
			t.Fatalf("Width(%q): %d", x, show.Width(x))
		}
	}
	edges := []rune{0x20, 0x21, 0x23, 0x7e, 0xa1, 0x2af, 0x370, 0x4ff}
	for _, c := range edges {
		if !show.Plain(string(c)) {
			t.Errorf("%U", c)
		}
	}
	for _, c := range []rune{0, 0x1f, 0x22, 0x7f, 0x80, 0xa0, 0x2b0, 0x36f, 0x500, 0xfffd, 0x1f600, 0x10ffff} {
		if show.Plain(string(c)) {
			t.Errorf("%U", c)
		}
	}
	if !show.Plain("") || !show.Plain(string(edges)) || !show.Plain(rep("\u03b1", 100000)) || show.Plain(rep("\u03b1", 100000)+"\"") {
		t.Error("strings")
	}
}

// P7.2: characters that are not in UTF-8, or not in its shortest form; all strings of two bytes, and many of more.
func TestPlainBytes(t *testing.T) {
	for _, s := range []string{"\xff", "\x80", "\xc3", "\xce", "\xb1", "a\xff", "\xffa", "\xc1\x81", "\xc1\xa1", "\xe0\x81\x81", "\xe0\x8e\xb1", "\xf0\x80\x8e\xb1", "\xf0\x80\x81\x81", "\xed\xa0\x80", "\xed\xbf\xbf", "\xf4\x90\x80\x80", "\xf8\x80\x80\x80\x81", "\xce\xb1\xce", "\xce\xce\xb1", "\xce\xb1\xb1", "\xef\xbf\xbd"} {
		if show.Plain(s) {
			t.Errorf("%q", s)
		}
		checkNode(t, d(s))
	}
	for c := range 1 << 16 {
		x := string([]byte{byte(c >> 8), byte(c)})
		for _, s := range []string{x, x[1:], "a" + x, x + "a", "\xe2" + x, x + "\xb1", "\xf0" + x + "\x80"} {
			if show.Plain(s) != plain(s) {
				t.Fatalf("Plain(%q): %v", s, !plain(s))
			}
			if show.Width(s) != utf8.RuneCountInString(s) {
				t.Fatalf("Width(%q): %d", s, show.Width(s))
			}
		}
		if c%7 == 0 || c < 0x300 || c>>8 >= 0xc0 && c>>8 < 0xd8 {
			checkNode(t, d(x))
			checkNode(t, r(d(x[1:]), a("k")))
		}
	}
}

// pick: one of l.
func pick[T any](g *rand.Rand, l ...T) T { return l[g.Intn(len(l))] }

// random: a term of at most so many levels.
func random(g *rand.Rand, levels int) *node {
	if levels == 1 || g.Intn(8) == 0 {
		switch g.Intn(5) {
		case 0:
			return r()
		case 1, 2:
			return a(pick(g, "k", "j", "h", "0", "x", "x00", "k/0/1", "-", "..", rep("k", 32)))
		}
		text := ""
		for range g.Intn(4) {
			text += pick(g, "a", " ", "x", "0", ",", ", ", "]", ")", "[", "$k", "h(", "..", "\u00a1", "\u03b1", "\u0430", "\u04ff", "\\")
		}
		if g.Intn(2) == 0 {
			text += pick(g, "\"", "\x00", "\xff", "\xce", "\xb1", "\u20ac", "\u00a0", "\n", "\u2028", "\U0001f600")
		}
		return d(text)
	}
	sub := func() *node { return random(g, 1+g.Intn(levels-1)) }
	switch g.Intn(4) {
	case 0:
		return h(sub())
	case 1:
		return m(sub(), sub())
	case 2:
		return s(sub(), sub(), sub())
	}
	x := r()
	for range g.Intn(4) {
		x.parts = append(x.parts, sub())
	}
	return x
}

// some: that many random terms.
func some(seed int64, count, levels int) []*node {
	g := rand.New(rand.NewSource(seed))
	var l []*node
	for len(l) < count {
		if x := random(g, levels); len(x.bytes()) <= 16384 {
			l = append(l, x)
		}
	}
	return l
}

// P7.1 to P7.3: random terms, each by every call; different ones have different lines.
func TestRandom(t *testing.T) {
	lines := map[string]string{}
	for _, x := range append(some(7, 20000, 4), some(8, 2000, 16)...) {
		checkNode(t, x)
		b, line := x.bytes(), x.line(16)
		if other, ok := lines[line]; ok && other != b {
			t.Fatalf("%q and %q: %q", b, other, line)
		}
		lines[line] = b
	}
}

// P7.1, P7.3: what differs from a line in a little is another term's line, or none.
func TestParseChanged(t *testing.T) {
	g := rand.New(rand.NewSource(71))
	tokens := []string{"", " ", ",", ", ", ",  ", "\"", "\"\"", "x", "x0", "x00", "x61", "xff", "xFF", "0", "A", "$", "$k", "$K", "[", "]", "[]", "(", ")", "h", "m", "s", "h(", "m(", "s(", "()", "..", "\n", "\xff", "\u03b1", "\u20ac", "'", "\x00", "d", "r"}
	none := 0
	for _, x := range append(some(72, 4000, 4), some(73, 500, 12)...) {
		line := x.line(16)
		for range 30 {
			at := g.Intn(len(line) + 1)
			to := min(at+g.Intn(3), len(line))
			if !checkParse(t, line[:at]+pick(g, tokens...)+line[to:]) {
				none++
			}
			checkParse(t, line[:at])
			checkParse(t, line[at:])
			checkParse(t, line[:at]+line[g.Intn(len(line)):])
		}
		for _, follow := range []string{" ", "\n", ",", ", ", "]", ")", line, ", " + line} {
			if checkParse(t, line+follow) && x.letter != "a" {
				t.Fatalf("%q: it is a line with %q behind it", line, follow)
			}
			checkParse(t, follow+line)
		}
	}
	if none < 1000 {
		t.Error(none)
	}
}

// letters are those of which TestParseShort puts texts together.
const letters = "06xhm,()[]$ \""

// strung: all strings of n of these letters.
func strung(of string, n int) []string {
	l := []string{""}
	for range n {
		var next []string
		for _, x := range l {
			for i := range len(of) {
				next = append(next, x+of[i:i+1])
			}
		}
		l = next
	}
	return l
}

// leaves: all datums and atoms whose lines have n of the letters.
func leaves(n int) []*node {
	var l []*node
	if n < 2 {
		return nil
	}
	for _, x := range strung("06xhm,()[]$ ", n-2) {
		l = append(l, d(x))
	}
	for _, x := range strung("06xhm", n-1) {
		l = append(l, a(x))
	}
	for _, x := range strung("\x00\x06\x60\x66", n/2) {
		if n%2 == 1 && !plain(x) {
			l = append(l, d(x))
		}
	}
	return l
}

// lists: all lists of terms whose lines, and what separates them, have n of the letters.
func lists(n int) [][]*node {
	var l [][]*node
	for k := 2; k <= n; k++ {
		for _, x := range few(k) {
			if k == n {
				l = append(l, []*node{x})
			}
			for _, more := range lists(n - k - 2) {
				l = append(l, append([]*node{x}, more...))
			}
		}
	}
	return l
}

// few: all terms whose lines have n of the letters, n being too few for a mac.
func few(n int) []*node {
	l := leaves(n)
	if n == 2 {
		l = append(l, r())
	}
	for _, parts := range lists(n - 2) {
		l = append(l, r(parts...))
	}
	if n > 3 {
		for _, x := range few(n - 3) {
			l = append(l, h(x))
		}
	}
	return l
}

// P7.1, P7.3: of all strings of few letters, just the lines of terms are parsed.
func TestParseShort(t *testing.T) {
	for n := range 6 {
		want := map[string]string{}
		for _, x := range few(n) {
			want[x.line(16)] = x.bytes()
		}
		for _, line := range strung(letters, n) {
			b, ok := want[line]
			if x, _ := show.Parse(line); x != b || ok != checkParse(t, line) {
				t.Fatalf("%q: %q, not %q", line, x, b)
			}
			delete(want, line)
		}
		if len(want) != 0 {
			t.Fatal(n, want)
		}
	}
	for _, n := range []int{6, 7, 8} {
		for _, x := range few(n - 2) {
			checkNode(t, r(x))
		}
	}
}

// P7.1: what looks like a line, and is none.
func TestParseWrong(t *testing.T) {
	for _, line := range []string{
		"", " ", "x", "$", "\"", "[", "]", "(", ")", "h", "m", "s", "h(", "m(", "s(", "..", "k", "ab", "d", "r", "a", "\x00", "\xff", "'a'",
		"x0", "x000", "xAB", "xaB", "xFF", "x0A", "x0g", "x 0", "x00 ", "x00x", "X00", "0x00", "x+1", "x_0", "x00ff0", "x\xff\xff", "xg0",
		"x61", "x20", "x7e", "x6162", "xceb1", "xc2a1", "xceb14142", "x00\"\"",
		"\"\"\"", "\"a", "a\"", "\"a\"b\"", "\"a\" ", " \"a\"", "\"\n\"", "\"\x00\"", "\"\x7f\"", "\"\u00a0\"", "\"\u0300\"", "\"\u0500\"", "\"\u20ac\"", "\"\xff\"", "\"\xce\"", "\"\xc1\x81\"", "\"\ufffd\"", "\u201ca\u201d", "\"\xe2\"\"",
		"$K", "$ k", "$k ", "$k_", "$k$", "$\u03b1", "$k\"", "$(", "$k,", "$k, $j", "$" + rep("k", 33),
		"[", "[ ]", "[,]", "[, ]", "[[]", "[]]", "[],", "[], ", "[], []", "[[],[]]", "[[] []]", "[[],  []]", "[[] , []]", "[[], ]", "[[],]", "[, []]", "[[];[]]", "[[], [], ]", "[[)", "[)", "([]", "[[]\n]", "[h([]]", "[..]", "[[][]]", "[\t]",
		"h()", "h([]", "h([]]", "h([", "h([], [])", "h([] )", "h( [])", "h [])", "h[[]]", "H([])", "h([]))", "h(..)", "hh([])", "h([],)", "h([], )",
		"m()", "m([])", "m([], [], [])", "m([],[])", "m([], [)", "m([], [])]", "m([], [], )",
		"s()", "s([])", "s([], [])", "s([], [], [], [])", "s([], [],[])",
		"d()", "a()", "r()", "r([])", "d(\"\")", "()", "([])", "x(00)", "$(k)", "n([])", "i([])",
	} {
		if x, e := show.Parse(line); x != "" || e != api.ErrForm {
			t.Errorf("%q: %q %d", line, x, int(e))
		}
		in := "[" + line + "]"
		if x, e := show.Parse(in); line != "" && line != "[], []" && line != "$k, $j" && (x != "" || e != api.ErrForm) {
			t.Errorf("%q: %q %d", in, x, int(e))
		}
	}
}

// P7.1: lines of each kind with each byte, and each character of two bytes, in each place.
func TestParseEachByte(t *testing.T) {
	for _, line := range []string{"\"\"", "\"a\"", "\"\u03b1\"", "x00", "xff01", "$k", "[]", "[[]]", "[$k, $j]", "h([])", "m([], \"a\")", "s($k, x00, [])"} {
		if !checkParse(t, line) {
			t.Fatal(line)
		}
		for at := range len(line) + 1 {
			for c := range rune(0x800) {
				x := string(c)
				if c >= 0x700 {
					x = string([]byte{byte(c)})
				}
				checkParse(t, line[:at]+x+line[at:])
				if at < len(line) {
					checkParse(t, line[:at]+x+line[at+1:])
				}
			}
		}
	}
}

// P7.1: what is within the limits of layer 6 has a line; what would be beyond has none.
func TestLimits(t *testing.T) {
	whole := rep("x", 507) // 511 bytes as a datum
	for _, x := range []*node{
		d(rep("x", 1024)), d(rep("\xff", 1024)), d(rep("\u03b1", 512)), a(rep("k", 32)), times(32, r()), times(32, d("\xff")),
		hashes(15, d("")), hashes(15, d("\x00")), hashes(15, r()), hashes(15, a("k")), hashes(14, h(r())), hashes(14, r(r(), d("x"))), hashes(14, m(a("k"), a("j"))), hashes(14, s(a("k"), a("j"), r())),
		times(32, d(whole)), times(32, h(d(rep("x", 506)))), r(hashes(14, d("")), hashes(14, d(""))), r(times(31, d(whole)), d(rep("x", 535))),
		times(32, times(31, times(7, r()))),
	} {
		checkNode(t, x)
	}
	if n := len(r(times(31, d(whole)), d(rep("x", 535))).bytes()); n != 16384 {
		t.Error(n)
	}
	for _, x := range []*node{
		d(rep("x", 1025)), d(rep("\xff", 1025)), d(rep("\u03b1", 513)), d(rep("\u03b1", 512) + "a"), a(rep("k", 33)), times(33, r()), r(times(33, r())), times(33, d("\xff")),
		hashes(16, d("")), hashes(16, d("\x00")), hashes(16, r()), hashes(16, a("k")), hashes(15, r(r())), hashes(15, m(a("k"), a("j"))), hashes(15, s(a("k"), a("j"), r())),
		times(32, d(rep("x", 509))), r(times(31, d(whole)), d(rep("x", 536))), h(r(times(31, d(whole)), d(rep("x", 535)))), m(times(20, d(whole)), times(20, d(whole))), times(32, times(32, d(whole))),
	} {
		line := x.line(99)
		if y, e := show.Parse(line); y != "" || e != api.ErrForm {
			t.Errorf("%.40q (%d bytes): %.40q %d", line, len(line), y, int(e))
		}
	}
}

// P7.1: long texts are gone through once, and no deeper than a term can be.
func TestParseGreat(t *testing.T) {
	const n = 1 << 22
	for _, line := range []string{
		rep("[", n), rep("h(", n), rep("m([], ", n), rep("s([], [], ", n), rep("[", n) + rep("]", n), rep("h(", n) + "[]" + rep(")", n), rep("]", n), rep("x", n), rep("\"", n), rep(" ", n),
		"\"" + rep("a", n) + "\"", "\"" + rep("a", n), "\"" + rep("\xff", n) + "\"", "x" + rep("00", n), "x" + rep("00", n) + "0", "$" + rep("k", n), "$k" + rep(" ", n), "[" + rep("[], ", n) + "[]]", "[" + rep("[], ", n), "[]" + rep("[]", n),
		"[" + rep("\"a\", ", n) + "]", "[" + rep("["+rep("[], ", 31)+"[]], ", 1<<16) + "[]]", rep(rep("$k, ", 31)+"[", 1<<16),
	} {
		if x, e := show.Parse(line); x != "" || e != api.ErrForm {
			t.Errorf("%.20q (%d bytes): %.20q %d", line, len(line), x, int(e))
		}
	}
	if show.Width(rep("\u03b1", n)) != n || show.Width(rep("\xff", n)) != n || !show.Plain(rep("a", n)) {
		t.Error("a long string")
	}
}

// P7.2: the order of the atoms, and that none comes twice.
func TestAtoms(t *testing.T) {
	for _, x := range []struct {
		term *node
		want []string
	}{
		{d("k"), nil},
		{d(a("k").bytes()), nil},
		{r(), nil},
		{a("k"), []string{"k"}},
		{r(a("b"), a("a"), a("b"), a("a")), []string{"b", "a"}},
		{m(a("k/0/1"), r(d("k"), a("z"), h(a("k/0/1")), a("a"))), []string{"k/0/1", "z", "a"}},
		{s(h(a("c")), r(a("b"), a("c")), a("a")), []string{"c", "b", "a"}},
		{r(d("z"), h(h(a("y"))), r(a("x")), a("y")), []string{"y", "x"}},
		{hashes(15, a("k")), []string{"k"}},
		{r(a("k"), a("kk"), a("k/")), []string{"k", "kk", "k/"}},
	} {
		if l := show.Atoms(x.term.bytes()); !slices.Equal(l, x.want) {
			t.Errorf("%q: %q, not %q", x.term.bytes(), l, x.want)
		}
	}
	b := r(a("b"), a("a")).bytes()
	l := show.Atoms(b)
	l[0], l[1] = "?", "?"
	if l := show.Atoms(b); !slices.Equal(l, []string{"b", "a"}) {
		t.Error(l)
	}
}

// P7.3: Brief is the line as soon as it is as deep as the term, and not ahead of that.
func TestBriefDepth(t *testing.T) {
	for _, x := range some(74, 3000, 16) {
		b := x.bytes()
		line, _ := show.Line(b)
		for deep := range 18 {
			got, e := show.Brief(b, deep)
			if e != api.OK || (got == line) != (deep >= term.Depth(b)) {
				t.Fatalf("Brief(%.60q, %d): %.60q %d", b, deep, got, int(e))
			}
			if _, e := show.Parse(got); e == api.OK && got != line {
				t.Fatalf("%q is a line of its own", got)
			}
		}
	}
}
