package octet_test

import (
	"math"
	"slices"
	"strings"
	"testing"
	"unsafe"

	"chirograph/api"
	"chirograph/octet"
)

// numbers: every number of up to two bytes, and those about each power of 256 and of 2, in their order.
func numbers() []uint64 {
	var l []uint64
	for v := range uint64(1<<16 + 300) {
		l = append(l, v)
	}
	for k := 17; k < 64; k++ {
		p := uint64(1) << k
		l = append(l, p-2, p-1, p, p+1, p+247, p+248, p+p/3)
	}
	l = append(l, math.MaxUint64-1, math.MaxUint64)
	slices.Sort(l)
	return slices.Compact(l)
}

// texts: strings about the lengths at which the encoding of a length changes.
func texts() []string {
	l := []string{"", "\x00", "\xff", "a", "ab", "\xf8", "\x01a", "é", "\xc3"}
	for _, n := range []int{246, 247, 248, 249, 255, 256, 257, 65535, 65536} {
		l = append(l, strings.Repeat("x", n), strings.Repeat("\x00", n))
	}
	return l
}

// P1.1: the encoding, by its definition.
func TestNum(t *testing.T) {
	for _, x := range []struct {
		v uint64
		s string
	}{
		{0, "\x00"},
		{1, "\x01"},
		{127, "\x7f"},
		{128, "\x80"},
		{247, "\xf7"},
		{248, "\xf8\xf8"},
		{255, "\xf8\xff"},
		{256, "\xf9\x01\x00"},
		{1<<16 - 1, "\xf9\xff\xff"},
		{1 << 16, "\xfa\x01\x00\x00"},
		{1<<24 - 1, "\xfa\xff\xff\xff"},
		{1 << 24, "\xfb\x01\x00\x00\x00"},
		{1<<32 - 1, "\xfb\xff\xff\xff\xff"},
		{1 << 32, "\xfc\x01\x00\x00\x00\x00"},
		{1<<40 - 1, "\xfc\xff\xff\xff\xff\xff"},
		{1 << 40, "\xfd\x01\x00\x00\x00\x00\x00"},
		{1<<48 - 1, "\xfd\xff\xff\xff\xff\xff\xff"},
		{1 << 48, "\xfe\x01\x00\x00\x00\x00\x00\x00"},
		{1<<56 - 1, "\xfe\xff\xff\xff\xff\xff\xff\xff"},
		{1 << 56, "\xff\x01\x00\x00\x00\x00\x00\x00\x00"},
		{0x0123456789abcdef, "\xff\x01\x23\x45\x67\x89\xab\xcd\xef"},
		{1<<63 - 1, "\xff\x7f\xff\xff\xff\xff\xff\xff\xff"},
		{1 << 63, "\xff\x80\x00\x00\x00\x00\x00\x00\x00"},
		{math.MaxUint64, "\xff\xff\xff\xff\xff\xff\xff\xff\xff"},
	} {
		if s := octet.Num(x.v); s != x.s {
			t.Errorf("Num(%d): %q, not %q", x.v, s, x.s)
		}
		if v, n, e := octet.ReadNum(x.s); v != x.v || n != len(x.s) || e != api.OK {
			t.Errorf("ReadNum(%q): %d %d %v", x.s, v, n, e)
		}
	}
}

// P1.1: wrong bytes, and which error comes first.
func TestReadNumErrors(t *testing.T) {
	for _, x := range []struct {
		s string
		e api.Errno
	}{
		{"", api.ErrEnd},
		{"\xf8", api.ErrEnd},
		{"\xf9\x01", api.ErrEnd},
		{"\xf9\x00", api.ErrEnd}, // a wrong first byte, but too few: the end comes first
		{"\xff\x00\x00\x00\x00\x00\x00\x00", api.ErrEnd},
		{"\xff\x01\x02\x03\x04\x05\x06\x07", api.ErrEnd},
		{"\xf8\x00", api.ErrForm},
		{"\xf8\x07", api.ErrForm},
		{"\xf8\xf7", api.ErrForm},
		{"\xf8\xf7\xff\xff", api.ErrForm},
		{"\xf9\x00\x09", api.ErrForm},
		{"\xf9\x00\xff", api.ErrForm},
		{"\xff\x00\xff\xff\xff\xff\xff\xff\xff", api.ErrForm},
	} {
		if v, n, e := octet.ReadNum(x.s); v != 0 || n != 0 || e != x.e {
			t.Errorf("ReadNum(%q): %d %d %v, not %v", x.s, v, n, e, x.e)
		}
	}
	for first := range 8 {
		for n := range first + 1 {
			s := string([]byte{byte(248 + first)}) + strings.Repeat("\x01", n)
			if v, n, e := octet.ReadNum(s); v != 0 || n != 0 || e != api.ErrEnd {
				t.Errorf("ReadNum(%q): %d %d %v", s, v, n, e)
			}
		}
	}
}

// P1.1, P1.4: every string of three bytes is read as the definition says, and only what Num makes is read.
func TestReadNumAll(t *testing.T) {
	for i := range 1 << 24 {
		s := string([]byte{byte(i >> 16), byte(i >> 8), byte(i)})
		v, n, e := octet.ReadNum(s)
		if e == api.OK {
			if octet.Num(v) != s[:n] {
				t.Fatalf("ReadNum(%q): %d %d", s, v, n)
			}
			continue
		}
		if want := wrong(s); e != want || v != 0 || n != 0 {
			t.Fatalf("ReadNum(%q): %d %d %v, not %v", s, v, n, e, want)
		}
	}
}

// wrong: what is wrong with a number's encoding of three bytes.
func wrong(s string) api.Errno {
	switch {
	case s[0] < 248:
		return api.OK
	case s[0] > 249:
		return api.ErrEnd
	case s[1] == 0 || s[0] == 248 && s[1] < 248:
		return api.ErrForm
	}
	return api.OK
}

// P1.2: the encoding, by its definition.
func TestText(t *testing.T) {
	for s, want := range map[string]string{"": "\x00", "a": "\x01a", "ab": "\x02ab", "\x00": "\x01\x00", "é": "\x02\xc3\xa9"} {
		if got := octet.Text(s); got != want {
			t.Errorf("Text(%q): %q", s, got)
		}
	}
	for _, s := range texts() {
		if got := octet.Text(s); got != octet.Num(uint64(len(s)))+s {
			t.Errorf("Text of %d bytes: %.20q", len(s), got)
		}
	}
}

// P1.2: wrong bytes and limits, and which error comes first.
func TestReadText(t *testing.T) {
	long := strings.Repeat("y", 300)
	for _, x := range []struct {
		s    string
		most int
		t    string
		n    int
		e    api.Errno
	}{
		{"\x02abc", 2, "ab", 3, api.OK},
		{"\x02ab", 2, "ab", 3, api.OK},
		{"\x02ab", math.MaxInt, "ab", 3, api.OK},
		{"\x00", 0, "", 1, api.OK},
		{"\x00a", -1, "", 1, api.OK},
		{"\x00", math.MinInt, "", 1, api.OK},
		{"\xf9\x01\x2c" + long, 300, long, 303, api.OK},
		{"\xf9\x01\x2c" + long + "z", 1 << 20, long, 303, api.OK},
		{"\x02abc", 1, "", 0, api.ErrLong},
		{"\x01a", 0, "", 0, api.ErrLong},
		{"\x01a", -1, "", 0, api.ErrLong},
		{"\x01a", math.MinInt, "", 0, api.ErrLong},
		{"\x03a", 2, "", 0, api.ErrLong}, // too long, and too few bytes: the limit comes first
		{"\xf9\x01\x2c" + long, 299, "", 0, api.ErrLong},
		{"\xff\xff\xff\xff\xff\xff\xff\xff\xff", math.MaxInt, "", 0, api.ErrLong},
		{"\xff\x80\x00\x00\x00\x00\x00\x00\x00", math.MaxInt, "", 0, api.ErrLong},
		{"\xff\x7f\xff\xff\xff\xff\xff\xff\xff", math.MaxInt, "", 0, api.ErrEnd},
		{"\x02a", 2, "", 0, api.ErrEnd},
		{"\x01", 2, "", 0, api.ErrEnd},
		{"\xf9\x01\x2c" + long[1:], 300, "", 0, api.ErrEnd},
		{"", 2, "", 0, api.ErrEnd},
		{"", -1, "", 0, api.ErrEnd},
		{"\xf8", 0, "", 0, api.ErrEnd},
		{"\xf8\x02ab", 2, "", 0, api.ErrForm},
		{"\xf8\x02ab", 0, "", 0, api.ErrForm}, // no encoding of a number: no limit is looked at
		{"\xf9\x00\x02ab", 9, "", 0, api.ErrForm},
	} {
		if s, n, e := octet.ReadText(x.s, x.most); s != x.t || n != x.n || e != x.e {
			t.Errorf("ReadText(%.20q, %d): %.20q %d %v", x.s, x.most, s, n, e)
		}
	}
}

// P1.3: the encodings of the strings, in their order.
func TestRow(t *testing.T) {
	if s := octet.Row(); s != "" {
		t.Errorf("Row(): %q", s)
	}
	if s := octet.Row(""); s != "\x00" {
		t.Errorf("Row of an empty string: %q", s)
	}
	if s := octet.Row("a", "", "bc", "a"); s != "\x01a\x00\x02bc\x01a" {
		t.Errorf("Row: %q", s)
	}
	var want string
	for _, s := range texts() {
		want += octet.Text(s)
	}
	if octet.Row(texts()...) != want {
		t.Error("Row of all the texts")
	}
}

// P1.3: counts, limits, wrong bytes.
func TestReadRow(t *testing.T) {
	row := "\x01a\x00\x02bc"
	for _, x := range []struct {
		s           string
		count, most int
		l           []string
		n           int
		e           api.Errno
	}{
		{row, 3, 2, []string{"a", "", "bc"}, 6, api.OK},
		{row + "\xff", 3, 2, []string{"a", "", "bc"}, 6, api.OK},
		{row, 2, 1, []string{"a", ""}, 3, api.OK}, // what is wrong behind the last one is not read
		{row, 1, math.MaxInt, []string{"a"}, 2, api.OK},
		{row, 0, 2, nil, 0, api.OK},
		{row, -1, 2, nil, 0, api.OK},
		{"\xff", math.MinInt, -1, nil, 0, api.OK},
		{"", 0, 0, nil, 0, api.OK},
		{"\x00\x00", 2, -7, []string{"", ""}, 2, api.OK},
		{row, 3, 1, nil, 0, api.ErrLong},
		{"\x01a", 1, -1, nil, 0, api.ErrLong},
		{row, 4, 2, nil, 0, api.ErrEnd},
		{row, math.MaxInt, 2, nil, 0, api.ErrEnd},
		{"", 1, 2, nil, 0, api.ErrEnd},
		{"\x01a\x02b", 2, 2, nil, 0, api.ErrEnd},
		{"\x01a\xf8\x01b", 2, 2, nil, 0, api.ErrForm},
		{"\x01a\xf8\x01b\x09", 3, 2, nil, 0, api.ErrForm}, // the first of two errors
		{"\x01a\x09b\xf8\x01", 3, 2, nil, 0, api.ErrLong},
	} {
		if l, n, e := octet.ReadRow(x.s, x.count, x.most); !slices.Equal(l, x.l) || n != x.n || e != x.e {
			t.Errorf("ReadRow(%q, %d, %d): %q %d %v", x.s, x.count, x.most, l, n, e)
		}
	}
}

// P1.4: what was encoded is decoded, whatever follows.
func TestDecoded(t *testing.T) {
	tails := []string{"", "\x00", "\xff", "\xf8\x01", "tail"}
	for i, v := range numbers() {
		s := octet.Num(v)
		if got, n, e := octet.ReadNum(s + tails[i%len(tails)]); got != v || n != len(s) || e != api.OK {
			t.Fatalf("ReadNum(Num(%d)): %d %d %v", v, got, n, e)
		}
	}
	for _, tail := range tails {
		for _, v := range texts() {
			s := octet.Text(v)
			if got, n, e := octet.ReadText(s+tail, len(v)); got != v || n != len(s) || e != api.OK {
				t.Errorf("ReadText(Text of %d bytes): %d bytes, %d %v", len(v), len(got), n, e)
			}
		}
		all := texts()
		s := octet.Row(all...)
		if l, n, e := octet.ReadRow(s+tail, len(all), 1<<16); !slices.Equal(l, all) || n != len(s) || e != api.OK {
			t.Errorf("ReadRow(Row): %d, %d %v", len(l), n, e)
		}
	}
}

// P1.4: what is decoded has just the encoding that was read.
func TestCanonical(t *testing.T) {
	letters := []byte{0, 1, 2, 3, 'a', 247, 248, 249, 255}
	for _, s := range words(letters, 6) {
		if v, n, e := octet.ReadText(s, 9); e == api.OK && octet.Text(v) != s[:n] {
			t.Fatalf("ReadText(%q): %q %d", s, v, n)
		}
		for count := range 4 {
			l, n, e := octet.ReadRow(s, count, 9)
			if e == api.OK && (len(l) != count || octet.Row(l...) != s[:n]) {
				t.Fatalf("ReadRow(%q, %d): %q %d", s, count, l, n)
			}
		}
	}
}

// words: all strings of n of these bytes.
func words(letters []byte, n int) []string {
	if n == 0 {
		return []string{""}
	}
	var l []string
	for _, s := range words(letters, n-1) {
		for _, c := range letters {
			l = append(l, s+string([]byte{c}))
		}
	}
	return l
}

// P1.4: numbers have the order of their encodings, of which none is a prefix of another one.
func TestOrder(t *testing.T) {
	l := numbers()
	for i := 1; i < len(l); i++ {
		// Of sorted strings, one that is a prefix of any later one is a prefix of the next.
		a, b := octet.Num(l[i-1]), octet.Num(l[i])
		if a >= b || strings.HasPrefix(b, a) {
			t.Fatalf("Num(%d), Num(%d): %q %q", l[i-1], l[i], a, b)
		}
	}
}

// P1.4: no encoding of a string is a prefix of another one; rows of equally many strings differ as these do.
func TestPrefix(t *testing.T) {
	var l, rows []string
	for _, s := range texts() {
		l = append(l, octet.Text(s))
		for _, r := range texts()[:9] {
			rows = append(rows, octet.Row(s, r))
		}
	}
	for _, l := range [][]string{l, rows} {
		slices.Sort(l)
		for i := 1; i < len(l); i++ {
			if strings.HasPrefix(l[i], l[i-1]) {
				t.Errorf("%.20q is a prefix of %.20q", l[i-1], l[i])
			}
		}
	}
	if octet.Row("ab", "c") == octet.Row("a", "bc") || octet.Row("", "a") == octet.Row("a", "") {
		t.Error("two rows have one encoding")
	}
}

// R5: answers share no memory with what was read: the bytes behind the argument are overwritten.
func TestNewMemory(t *testing.T) {
	b := []byte(octet.Row("first", "second"))
	s := unsafe.String(&b[0], len(b))
	v, _, _ := octet.ReadText(s, 9)
	l, _, _ := octet.ReadRow(s, 2, 9)
	part := b[1:6]
	one, row := octet.Text(unsafe.String(&part[0], len(part))), octet.Row(unsafe.String(&part[0], len(part)))
	clear(b)
	if v != "first" || !slices.Equal(l, []string{"first", "second"}) || one != "\x05first" || row != "\x05first" {
		t.Errorf("%q %q %q %q", v, l, one, row)
	}
}
