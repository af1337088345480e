package suite_test

import (
	stdhmac "crypto/hmac"
	"crypto/sha256"
	"encoding/binary"
	"encoding/hex"
	"fmt"
	"math"
	"math/rand"
	"slices"
	"strings"
	"sync"
	"testing"
	"unsafe"

	"chirograph/api"
	"chirograph/cipher"
	"chirograph/octet"
	"chirograph/suite"
	"chirograph/term"
)

// The terms of the tests, laid together by hand.

func d(s string) string          { return "d" + octet.Text(s) }
func a(s string) string          { return "a" + octet.Text(s) }
func r(l ...string) string       { return "r" + octet.Num(uint64(len(l))) + strings.Join(l, "") }
func h(t string) string          { return "h" + t }
func m(k, t string) string       { return "m" + k + t }
func s(k, n, t string) string    { return "s" + k + n + t }
func rep(s string, n int) string { return strings.Repeat(s, n) }

const twelve = "nonce of 12b"

// What another program computed.
const (
	keyHex  = "642021392ad98abdfd22efbd155fe0d37a6b921c32d4ed84d9659ea53aaa3ccdf96b"
	hashHex = "64204658d6abbbaf7748c172ed5a3e003cdb8997648f88724834e41f75e54520e142"
	macHex  = "6420be3d3a9532ea65223037abab7b649eab7b3af7376f9d0f6a587089ecf3d0f900"
)

// sized: a term of n bytes, 4 to 16,384: rows of data.
func sized(n int) string {
	if n < 4 {
		panic("none so short")
	}
	var l []string
	for left := n - 2; left > 0; {
		most := 1028 // a datum of 1,024 bytes
		if left <= most {
			l = append(l, datumSized(left)...)
			break
		}
		// What is left for the last one must be a datum's length.
		if left-most < 4 {
			most = 900
		}
		l = append(l, datumSized(most)...)
		left -= most
	}
	return r(l...)
}

// datumSized: data of n bytes in all, n at least 2: one, or two where no single one has that length.
func datumSized(n int) []string {
	for size := max(0, n-4); size <= n; size++ {
		if x := d(rep("z", size)); len(x) == n {
			return []string{x}
		}
	}
	return append(datumSized(n-2), d(""))
}

// TestSized: the tests' own terms have the lengths they should have.
func TestSized(t *testing.T) {
	for n := 4; n <= api.MaxTerm; n++ {
		if x := sized(n); len(x) != n || term.Check(x) != api.OK {
			t.Fatalf("%d: %d bytes, %d", n, len(x), int(term.Check(x)))
		}
	}
}

// model: a suite as the chapter defines it, of the library's hashes and tags.
type model struct {
	bytes  bool
	master string
}

func (x model) String() string {
	if x.bytes {
		return fmt.Sprintf("bytes under %q", x.master)
	}
	return "terms"
}

// models: the suites of the tests; the shortest master, and the longest one.
func models() []model {
	return []model{{}, {true, "x"}, {true, "another master"}, {true, rep("m", 63) + "\x00"}}
}

// suite: the suite of which x is the model.
func (x model) suite(t *testing.T) *suite.Suite {
	t.Helper()
	kind := uint8(api.SuTerms)
	if x.bytes {
		kind = api.SuBytes
	}
	s, e := suite.New(kind, x.master)
	if s == nil || e != api.OK {
		t.Fatalf("New(%d, %q): error %d", kind, x.master, int(e))
	}
	return s
}

// tagOf: the tag of s under key, by the library.
func tagOf(key, s string) string {
	x := stdhmac.New(sha256.New, []byte(key))
	x.Write([]byte(s))
	return string(x.Sum(nil))
}

// sealed: the sealed form of s, by layer 4; the nonce has 12 bytes.
func sealed(key, nonce, s string) string {
	x, e := cipher.Seal(key, nonce, s)
	if e != api.OK {
		panic(e)
	}
	return x
}

// is: whether x is a term.
func is(x string) bool { return term.Check(x) == api.OK }

// text: the string of x, a datum; none if it is no datum.
func text(x string) (string, bool) {
	if !is(x) || x[0] != 'd' {
		return "", false
	}
	s, _, _ := octet.ReadText(x[1:], api.MaxText)
	return s, true
}

// isKey: whether k can be a key.
func (x model) isKey(k string) bool {
	_, ok := text(k)
	return is(k) && (ok || !x.bytes)
}

// isNonce: whether n can be a nonce.
func (x model) isNonce(n string) bool {
	s, ok := text(n)
	return is(n) && (ok && len(s) == 12 || !x.bytes)
}

// valid: x, if it is a term.
func valid(x string) (string, api.Errno) {
	if !is(x) {
		return "", api.ErrLong
	}
	return x, api.OK
}

func (x model) key(name string) (string, api.Errno) {
	_, e := term.Atom(name)
	switch {
	case e != api.OK:
		return "", e
	case x.bytes:
		return d(tagOf(x.master, "key "+name)), api.OK
	}
	return a(name), api.OK
}

func (x model) hash(t string) (string, api.Errno) {
	switch {
	case !is(t):
		return "", api.ErrArg
	case x.bytes:
		sum := sha256.Sum256([]byte(t))
		return d(string(sum[:])), api.OK
	}
	return valid(h(t))
}

func (x model) mac(k, t string) (string, api.Errno) {
	switch {
	case !x.isKey(k) || !is(t):
		return "", api.ErrArg
	case x.bytes:
		key, _ := text(k)
		return d(tagOf(key, t)), api.OK
	}
	return valid(m(k, t))
}

func (x model) seal(k, n, t string) (string, api.Errno) {
	switch {
	case !x.isKey(k) || !x.isNonce(n) || !is(t):
		return "", api.ErrArg
	case x.bytes:
		key, _ := text(k)
		nonce, _ := text(n)
		return valid(d(sealed(key, nonce, t)))
	}
	return valid(s(k, n, t))
}

func (x model) open(k, y string) (string, api.Errno) {
	if !x.isKey(k) || !is(y) {
		return "", api.ErrArg
	}
	if !x.bytes {
		if y[0] != 's' {
			return "", api.ErrForm
		}
		l, _ := term.Parts(y)
		if k != l[0] {
			return "", api.ErrTag
		}
		return l[2], api.OK
	}
	form, ok := text(y)
	if !ok {
		return "", api.ErrForm
	}
	key, _ := text(k)
	content, e := cipher.Open(key, form)
	switch {
	case e != api.OK:
		return "", api.ErrTag
	case !is(content):
		return "", api.ErrForm
	}
	return content, api.OK
}

// image: the image of t, of the images of its parts, which are found first.
func (x model) image(t string) (string, api.Errno) {
	if !is(t) {
		return "", api.ErrArg
	}
	if !x.bytes {
		return t, api.OK
	}
	l, _ := term.Parts(t)
	for i := range l {
		y, e := x.image(l[i])
		if e != api.OK {
			return "", e
		}
		l[i] = y
	}
	switch t[0] {
	case 'a':
		name, _ := term.Text(t)
		return x.key(name)
	case 'r':
		return valid(r(l...))
	case 'h':
		return x.hash(l[0])
	case 'm':
		return x.mac(l[0], l[1])
	case 's':
		return x.seal(l[0], l[1], l[2])
	}
	return t, api.OK
}

// expect: that a call answers what it should.
func expect(t *testing.T, what string, got string, e api.Errno, want string, f api.Errno) {
	t.Helper()
	if got != want || e != f {
		t.Fatalf("%.300s: %.60q %d, not %.60q %d", what, got, int(e), want, int(f))
	}
}

// chosen: terms of all kinds and lengths, and what is none.
func chosen() []string {
	l := []string{
		d(""), d("x"), d(twelve), d(twelve[1:]), d(twelve + "x"), d(rep("\x00", 12)), d(rep("k", 64)), d(rep("k", 65)), d(rep("z", 1024)),
		a("k"), a(twelve[:5]), a("abcdefghijkl"), a(rep("n", 32)), a("k/0/1"),
		r(), r(d("x")), r(a("k"), d(twelve)), r(r(), r(r())), r(strings.Fields(rep("r\x00 ", 32))...),
		h(d("x")), h(a("k")), m(a("k"), d("x")), m(d("k"), d("x")), m(r(), r()), s(a("k"), d(twelve), d("x")), s(d("k"), d(twelve), r()), s(a("j"), a("n"), a("k")),
		rep("h", 14) + d(""), rep("h", 15) + d(""), rep("r\x01", 15) + r(),
		sized(979), sized(980), sized(981), sized(16000), sized(16383), sized(16384),
		"", "d", "x", "a\x00", a("K"), a(rep("n", 33)), d("x") + "y", d(rep("z", 1025)), d("xy")[:3], "h", rep("h", 16) + d(""), r(d("")) + " ", "\xff", "r\x21" + rep(r(), 33),
	}
	for _, x := range models()[1:] {
		key, _ := x.key("k")
		one, _ := x.hash(d("x"))
		two, _ := x.mac(key, d("x"))
		l = append(l, key, one, two, d(sealed("k", twelve, d("x"))), d(sealed("k", twelve, "no term")), d(sealed("k", twelve, "")))
	}
	return l
}

// P8.1: New for each kind, and masters of all lengths about the limits; Kind.
func TestNew(t *testing.T) {
	for kind := range 256 {
		for _, n := range []int{0, 1, 2, 12, 63, 64, 65, 66, 128, 1000} {
			master := rep("\xff", n)
			x, e := suite.New(uint8(kind), master)
			ok := kind == api.SuTerms || kind == api.SuBytes && n >= 1 && n <= 64
			switch {
			case ok && (x == nil || e != api.OK || x.Kind() != uint8(kind)):
				t.Fatalf("New(%d, %d bytes): %d, of the kind %d", kind, n, int(e), x.Kind())
			case !ok && (x != nil || e != api.ErrArg):
				t.Fatalf("New(%d, %d bytes): %v %d", kind, n, x, int(e))
			}
		}
	}
}

// R3: methods of nil.
func TestNil(t *testing.T) {
	var x *suite.Suite
	if x.Kind() != 0 || x.Same("", "") || x.Same("a", "a") {
		t.Error("nil has a kind, or something that is the same")
	}
	calls := map[string]func(string, string, string) (string, api.Errno){
		"Key":   func(a, _, _ string) (string, api.Errno) { return x.Key(a) },
		"Hash":  func(a, _, _ string) (string, api.Errno) { return x.Hash(a) },
		"Mac":   func(a, b, _ string) (string, api.Errno) { return x.Mac(a, b) },
		"Seal":  x.Seal,
		"Open":  func(a, b, _ string) (string, api.Errno) { return x.Open(a, b) },
		"Image": func(a, _, _ string) (string, api.Errno) { return x.Image(a) },
	}
	for what, call := range calls {
		for _, l := range [][3]string{{}, {"k", "k", "k"}, {d("k"), d(twelve), d("x")}} {
			got, e := call(l[0], l[1], l[2])
			expect(t, what, got, e, "", api.ErrNil)
		}
	}
}

// P8.1: Key, for names and for what is none.
func TestKey(t *testing.T) {
	names := []string{"", "k", "k/0/1", "s/7/7", "-", ".", "/", "K", "k ", " k", "k\x00", "\u043a", "key k", rep("n", 31), rep("n", 32), rep("n", 33), rep("N", 32), rep("N", 33), rep("n", 5000)}
	for c := range 256 {
		names = append(names, "k"+string([]byte{byte(c)}))
	}
	for _, x := range models() {
		y := x.suite(t)
		for _, name := range names {
			got, e := y.Key(name)
			want, f := x.key(name)
			expect(t, fmt.Sprintf("%v: Key(%.40q)", x, name), got, e, want, f)
		}
	}
	if _, e := models()[1].suite(t).Key(rep("N", 33)); e != api.ErrLong {
		t.Errorf("too long, and no letter of a name: %d", int(e))
	}
}

// P8.1: the key of a suite of bytes, as another program computed it.
func TestKeyBytes(t *testing.T) {
	y := model{true, "master"}.suite(t)
	got, e := y.Key("k/0/1")
	expect(t, "Key", hex.EncodeToString([]byte(got)), e, keyHex, api.OK)
	got, e = y.Hash(d(""))
	expect(t, "Hash", hex.EncodeToString([]byte(got)), e, hashHex, api.OK)
	got, e = y.Mac(d("Jefe"), d("what"))
	expect(t, "Mac", hex.EncodeToString([]byte(got)), e, macHex, api.OK)
}

// P8.1: Nonce, at each limit of each number, and for each byte.
func TestNonce(t *testing.T) {
	values := []int{math.MinInt, math.MinInt32, -1 << 32, -2, -1, 0, 1, 2, 127, 128, 255, 256, 257, 65535, 65536, 1<<24 - 1, 1 << 24, 0x12345678, api.MaxNum - 1, api.MaxNum, api.MaxNum + 1, 1<<32 - 1, 1 << 32, 1<<32 + 5, math.MaxInt}
	for i := range 31 {
		values = append(values, 1<<i)
	}
	for _, a := range values {
		for _, b := range values {
			for _, c := range values {
				var want string
				f := api.ErrArg
				if a >= 0 && b >= 0 && c >= 0 && a < 1<<31 && b < 1<<31 && c < 1<<31 {
					l := binary.BigEndian.AppendUint32(nil, uint32(a))
					l = binary.BigEndian.AppendUint32(l, uint32(b))
					want, f = d(string(binary.BigEndian.AppendUint32(l, uint32(c)))), api.OK
				}
				if got, e := suite.Nonce(a, b, c); got != want || e != f {
					t.Fatalf("Nonce(%d, %d, %d): %q %d, not %q", a, b, c, got, int(e), want)
				}
			}
		}
	}
}

// checkPair: Mac and Open of k and y, and Hash and Image of k.
func checkPair(t *testing.T, x model, z *suite.Suite, k, y string) {
	t.Helper()
	got, e := z.Mac(k, y)
	want, f := x.mac(k, y)
	expect(t, fmt.Sprintf("%v: Mac(%.60q, %.60q)", x, k, y), got, e, want, f)
	got, e = z.Open(k, y)
	want, f = x.open(k, y)
	expect(t, fmt.Sprintf("%v: Open(%.60q, %.60q)", x, k, y), got, e, want, f)
	if z.Same(k, y) != (k == y) {
		t.Fatalf("Same(%.60q, %.60q)", k, y)
	}
}

// checkAlone: Hash and Image of y.
func checkAlone(t *testing.T, x model, z *suite.Suite, y string) {
	t.Helper()
	got, e := z.Hash(y)
	want, f := x.hash(y)
	expect(t, fmt.Sprintf("%v: Hash(%.60q)", x, y), got, e, want, f)
	got, e = z.Image(y)
	want, f = x.image(y)
	expect(t, fmt.Sprintf("%v: Image(%.60q)", x, y), got, e, want, f)
}

// checkSeal: Seal of the three, and Open of what comes of it.
func checkSeal(t *testing.T, x model, z *suite.Suite, k, n, y string) {
	t.Helper()
	got, e := z.Seal(k, n, y)
	want, f := x.seal(k, n, y)
	expect(t, fmt.Sprintf("%v: Seal(%.60q, %.60q, %.60q)", x, k, n, y), got, e, want, f)
	if e == api.OK {
		back, e := z.Open(k, got)
		expect(t, fmt.Sprintf("%v: Open of Seal(%.60q, %.60q, %.60q)", x, k, n, y), back, e, y, api.OK)
	}
}

// P8.2, P8.3: every call with all pairs, and triples, of chosen terms and of what is none.
func TestChosen(t *testing.T) {
	l := chosen()
	for _, x := range models() {
		z := x.suite(t)
		for _, k := range l {
			checkAlone(t, x, z, k)
			for _, y := range l {
				checkPair(t, x, z, k, y)
			}
		}
	}
	few := []string{"", "x", d("") + "x", d(""), d("k"), d(twelve), d(twelve + "x"), d(twelve[1:]), a("k"), a("abcdefghijkl"), r(), h(d(twelve)), sized(981), sized(16384), a("N")}
	for _, x := range models() {
		z := x.suite(t)
		for _, k := range few {
			for _, n := range few {
				for _, y := range few {
					checkSeal(t, x, z, k, n, y)
				}
			}
		}
	}
}

// P8.2: how long and how deep the results may be, on both sides of each limit.
func TestLimits(t *testing.T) {
	for _, x := range models() {
		z := x.suite(t)
		for n := 4; n <= 1100; n++ {
			checkSeal(t, x, z, d("k"), d(twelve), sized(n))
		}
		for n := 16300; n <= api.MaxTerm; n++ {
			y := sized(n)
			checkAlone(t, x, z, y)
			checkPair(t, x, z, d("k"), y)
			checkPair(t, x, z, y, d("k"))
			checkSeal(t, x, z, d("k"), d(twelve), y)
		}
		for n := range 17 {
			y := rep("h", n) + d("")
			checkAlone(t, x, z, y)
			checkPair(t, x, z, d("k"), y)
			checkPair(t, x, z, y, d("k"))
			checkSeal(t, x, z, d("k"), d(twelve), y)
			checkSeal(t, x, z, d("k"), y, d(twelve))
			checkSeal(t, x, z, y, d(twelve), d("k"))
		}
	}
	// Said once by numbers: a seal of bytes has 44 more, and a datum at most 1,024.
	z := model{true, "x"}.suite(t)
	got, e := z.Seal(d("k"), d(twelve), sized(980))
	if e != api.OK || len(got) != 1028 {
		t.Errorf("Seal of 980 bytes: %d bytes, error %d", len(got), int(e))
	}
	got, e = z.Seal(d("k"), d(twelve), sized(981))
	expect(t, "Seal of 981 bytes", got, e, "", api.ErrLong)
}

// P8.2: which terms can be keys and nonces, and which error is first.
func TestKeysAndNonces(t *testing.T) {
	z, y := model{true, "x"}.suite(t), model{}.suite(t)
	for n := range 1025 {
		nonce := d(rep("n", n))
		f := api.ErrArg
		if n == 12 {
			f = api.OK
		}
		if _, e := z.Seal(d("k"), nonce, d("x")); e != f {
			t.Fatalf("Seal with a nonce of %d bytes: %d", n, int(e))
		}
		// Too long as well: what can't be a nonce comes first.
		if _, e := z.Seal(d("k"), nonce, sized(2000)); (e == api.ErrArg) != (n != 12) || n == 12 && e != api.ErrLong {
			t.Fatalf("Seal of too much, with a nonce of %d bytes: %d", n, int(e))
		}
		if _, e := z.Mac(nonce, d("x")); e != api.OK {
			t.Fatalf("Mac with a key of %d bytes: %d", n, int(e))
		}
	}
	for _, k := range []string{a("k"), r(), h(d("")), m(d(""), d("")), s(d(""), d(twelve), d(""))} {
		for what, call := range map[string]func() (string, api.Errno){
			"Mac":      func() (string, api.Errno) { return z.Mac(k, d("x")) },
			"Seal":     func() (string, api.Errno) { return z.Seal(k, d(twelve), d("x")) },
			"Open":     func() (string, api.Errno) { return z.Open(k, d(sealed("k", twelve, d("x")))) },
			"the rest": func() (string, api.Errno) { return z.Seal(d("k"), k, d("x")) },
		} {
			got, e := call()
			expect(t, fmt.Sprintf("%s: %q as a key, or a nonce", what, k), got, e, "", api.ErrArg)
		}
		if _, e := y.Seal(k, k, d("x")); e != api.OK {
			t.Errorf("Seal of terms, %q as a key and a nonce: %d", k, int(e))
		}
	}
	// An atom's name is no string of a datum, whatever it is.
	k, _ := z.Key("k")
	if got, e := z.Open(a("k"), d("x")); got != "" || e != api.ErrArg {
		t.Errorf("Open with an atom: %q %d", got, int(e))
	}
	if got, e := z.Open(k, a("x")); got != "" || e != api.ErrForm {
		t.Errorf("Open of an atom: %q %d", got, int(e))
	}
}

// P8.2: Open of sealed bytes that are altered, cut or lengthened, under the wrong key, and with a content that is no term.
func TestOpenBytes(t *testing.T) {
	x := model{true, "x"}
	z := x.suite(t)
	form := sealed("k", twelve, d("some"))
	for i := range len(form) {
		for _, v := range []byte{1, 128, 255} {
			b := []byte(form)
			b[i] ^= v
			got, e := z.Open(d("k"), d(string(b)))
			expect(t, fmt.Sprintf("Open, byte %d altered", i), got, e, "", api.ErrTag)
		}
		got, e := z.Open(d("k"), d(form[:i]))
		expect(t, fmt.Sprintf("Open of %d bytes", i), got, e, "", api.ErrTag)
		got, e = z.Open(d("k"), d(form[:i]+"x"+form[i:]))
		expect(t, fmt.Sprintf("Open, a byte put in at %d", i), got, e, "", api.ErrTag)
	}
	for _, k := range []string{"", "j", "k ", "K", "k\x01"} {
		got, e := z.Open(d(k), d(form))
		expect(t, fmt.Sprintf("Open with %q", k), got, e, "", api.ErrTag)
	}
	for _, content := range []string{"", "x", "d", d("some") + "x", a("K"), rep("h", 16) + d(""), "d\x05some"} {
		got, e := z.Open(d("k"), d(sealed("k", twelve, content)))
		expect(t, fmt.Sprintf("Open of what has %q", content), got, e, "", api.ErrForm)
		got, e = z.Open(d("j"), d(sealed("k", twelve, content)))
		expect(t, fmt.Sprintf("Open with another key of what has %q", content), got, e, "", api.ErrTag)
	}
	for n := range 1025 {
		got, e := z.Open(d("k"), d(rep("\x00", n)))
		expect(t, fmt.Sprintf("Open of %d bytes", n), got, e, "", api.ErrTag)
	}
}

// P8.2: Same, whatever the two are.
func TestSame(t *testing.T) {
	l := append(chosen(), rep("x", 100000), rep("x", 99999)+"y", "y"+rep("x", 99999))
	for _, x := range models() {
		z := x.suite(t)
		for i, p := range l {
			for _, q := range l {
				if z.Same(p, strings.Clone(q)) != (p == q) {
					t.Fatalf("%v: Same(%.60q, %.60q)", x, p, q)
				}
			}
			if !z.Same(p, p) {
				t.Fatalf("%v: %d is not itself", x, i)
			}
		}
	}
}

// P8.3: which error an image's is: that of a part before that of the whole, and that of an earlier part before that of a later one.
func TestImageErrors(t *testing.T) {
	arg := m(r(), d("x"))                            // the key's image is a row
	long := s(a("k"), d(twelve), sized(981))         // more than a datum has room for
	late := s(a("k"), d("short"), sized(981))        // no nonce, and too long
	many := r(times(32, r(times(32, a("k"))...))...) // too long once each atom is a key
	z := model{true, "x"}.suite(t)
	for _, c := range []struct {
		t string
		e api.Errno
	}{
		{arg, api.ErrArg}, {long, api.ErrLong}, {late, api.ErrArg}, {many, api.ErrLong},
		{r(arg, long), api.ErrArg}, {r(long, arg), api.ErrLong}, {r(d(""), r(r(long)), arg), api.ErrLong}, {r(many, arg), api.ErrLong}, {r(arg, many), api.ErrArg},
		{m(long, arg), api.ErrLong}, {m(arg, long), api.ErrArg}, {m(r(), long), api.ErrLong}, {m(r(), arg), api.ErrArg}, {m(a("k"), long), api.ErrLong},
		{s(r(), d(""), long), api.ErrLong}, {s(long, arg, d("x")), api.ErrLong}, {s(d("k"), arg, long), api.ErrArg}, {s(d("k"), long, arg), api.ErrLong}, {s(d("k"), a("k"), d("x")), api.ErrArg}, {s(d("k"), a("n"), sized(981)), api.ErrArg},
		{s(d("k"), h(d("")), d("x")), api.ErrArg}, {s(h(d("")), d(twelve), d("x")), api.OK}, {m(h(r(a("k"))), many), api.ErrLong},
		{h(long), api.ErrLong}, {h(arg), api.ErrArg}, {h(many), api.ErrLong},
		{h(sized(16000)), api.OK}, {h(sized(16384)), api.ErrArg}, {m(m(d("k"), r()), r()), api.OK}, {s(m(d("k"), r()), d(twelve), s(a("k"), d(twelve), d("x"))), api.OK},
		{"", api.ErrArg}, {arg + "x", api.ErrArg}, {"x", api.ErrArg},
	} {
		got, e := z.Image(c.t)
		if e != c.e || (got == "") != (e != api.OK) {
			t.Errorf("Image(%.80q): %.40q %d, not %d", c.t, got, int(e), int(c.e))
		}
		want, f := model{true, "x"}.image(c.t)
		expect(t, fmt.Sprintf("Image(%.80q)", c.t), got, e, want, f)
		got, e = model{}.suite(t).Image(c.t)
		want, f = model{}.image(c.t)
		expect(t, fmt.Sprintf("Image(%.80q) in a suite of terms", c.t), got, e, want, f)
	}
}

// times: n times x.
func times(n int, x string) []string { return slices.Repeat([]string{x}, n) }

// P8.3: an image of a row may have 16,384 bytes, and no more.
func TestImageLength(t *testing.T) {
	z := model{true, "x"}.suite(t)
	for atoms := range 33 {
		for _, n := range []int{15000, 15500, 16000, 16200} {
			for more := range 40 {
				x := r(sized(n+more-200), r(times(atoms, a("k"))...))
				if !is(x) {
					continue
				}
				got, e := z.Image(x)
				size := len(x) + atoms*(34-3)
				if (e == api.OK) != (size <= api.MaxTerm) || e == api.OK && len(got) != size || e != api.OK && e != api.ErrLong {
					t.Fatalf("%d bytes for %d: %d", size, len(x), int(e))
				}
			}
		}
	}
}

// random: a term of at most that many levels.
func random(g *rand.Rand, levels int) string {
	kind := g.Intn(8)
	if levels == 1 {
		kind = g.Intn(3)
	}
	part := func() string { return random(g, levels-1) }
	switch kind {
	case 0:
		return d(rep("x", g.Intn(5)))
	case 1:
		return a([]string{"k", "j", "k/0/1", "n"}[g.Intn(4)])
	case 2:
		return d(rep(string(rune('a'+g.Intn(3))), 12))
	case 3, 4:
		var l []string
		for range g.Intn(4) {
			l = append(l, part())
		}
		return r(l...)
	case 5:
		return h(part())
	case 6:
		return m(likely(g, part()), part())
	}
	return s(likely(g, part()), d(rep(string(rune('a'+g.Intn(3))), 12)), part())
}

// likely: x, or, mostly, what can be a key.
func likely(g *rand.Rand, x string) string {
	if g.Intn(8) == 0 {
		return x
	}
	return []string{a("k"), a("j"), d("key"), h(a("k"))}[g.Intn(4)]
}

// P8.2, P8.3: every call with random terms.
func TestRandom(t *testing.T) {
	g := rand.New(rand.NewSource(8))
	for _, x := range models() {
		z := x.suite(t)
		images := 0
		for range 3000 {
			k, n, y := random(g, 3), random(g, 3), random(g, 6)
			checkAlone(t, x, z, y)
			checkPair(t, x, z, k, y)
			checkSeal(t, x, z, k, n, y)
			if _, e := z.Image(y); e == api.OK {
				images++
			}
		}
		if images < 1000 {
			t.Errorf("%v: only %d terms have images", x, images)
		}
	}
}

// P8.4: the image of what a suite of terms answers is what a suite of bytes answers of the images.
func TestImagesOfResults(t *testing.T) {
	g := rand.New(rand.NewSource(84))
	terms := model{}.suite(t)
	z := model{true, "the master"}.suite(t)
	seen := 0
	check := func(what string, made string, e api.Errno, want string, f api.Errno) {
		t.Helper()
		if e != api.OK || f != api.OK {
			return
		}
		seen++
		got, e := z.Image(made)
		expect(t, what, got, e, want, api.OK)
	}
	for range 4000 {
		k, n, y := random(g, 2), random(g, 2), random(g, 5)
		ik, e := z.Image(k)
		in, f := z.Image(n)
		iy, i := z.Image(y)
		if e != api.OK || f != api.OK || i != api.OK {
			continue
		}
		made, e := terms.Hash(y)
		want, f := z.Hash(iy)
		check("Hash", made, e, want, f)
		made, e = terms.Mac(k, y)
		want, f = z.Mac(ik, iy)
		check("Mac", made, e, want, f)
		made, e = terms.Seal(k, n, y)
		want, f = z.Seal(ik, in, iy)
		check("Seal", made, e, want, f)
	}
	for _, name := range []string{"k", "k/0/1", rep("n", 32)} {
		made, e := terms.Key(name)
		want, f := z.Key(name)
		check("Key", made, e, want, f)
	}
	if seen < 3000 {
		t.Errorf("only %d were seen", seen)
	}
}

// P8.4: in a suite of terms no other key opens a seal, and two tags are equal only if their keys and what they tag are.
func TestTermsApart(t *testing.T) {
	g := rand.New(rand.NewSource(48))
	z := model{}.suite(t)
	var l []string
	for range 60 {
		l = append(l, random(g, 3))
	}
	tags := map[string][2]string{}
	for _, k := range l {
		for _, y := range l {
			tag, e := z.Mac(k, y)
			if e != api.OK {
				t.Fatal(int(e))
			}
			if had, ok := tags[tag]; ok && had != [2]string{k, y} {
				t.Fatalf("one tag of two: %q, %q", had, [2]string{k, y})
			}
			tags[tag] = [2]string{k, y}
			x, _ := z.Seal(k, d(""), d("x"))
			got, e := z.Open(y, x)
			if (e == api.OK) != (k == y) || e != api.OK && (e != api.ErrTag || got != "") {
				t.Fatalf("Open(%q, %q): %q %d", y, x, got, int(e))
			}
		}
	}
}

// share: whether the bytes of two strings stand in one place, at least in part.
func share(x, y string) bool {
	p, q := uintptr(unsafe.Pointer(unsafe.StringData(x))), uintptr(unsafe.Pointer(unsafe.StringData(y)))
	return p < q+uintptr(len(y)) && q < p+uintptr(len(x))
}

// R5: results are new memory.
func TestNewMemory(t *testing.T) {
	k, n, y := strings.Clone(d("key")), strings.Clone(d(twelve)), strings.Clone(r(d("some text"), d("more")))
	for _, x := range models() {
		z := x.suite(t)
		sealed, _ := z.Seal(k, n, y)
		given := []string{k, n, y, sealed}
		for range 2 {
			var l []string
			for _, call := range []func() (string, api.Errno){
				func() (string, api.Errno) { return z.Image(y) },
				func() (string, api.Errno) { return z.Image(k) },
				func() (string, api.Errno) { return z.Open(k, sealed) },
				func() (string, api.Errno) { return z.Hash(y) },
				func() (string, api.Errno) { return z.Mac(k, y) },
				func() (string, api.Errno) { return z.Seal(k, n, y) },
				func() (string, api.Errno) { return z.Key("k") },
				func() (string, api.Errno) { return suite.Nonce(1, 2, 3) },
			} {
				got, e := call()
				if e != api.OK {
					t.Fatal(int(e))
				}
				l = append(l, got)
			}
			for i, got := range l {
				for _, other := range slices.Concat(given, l[:i]) {
					if share(got, other) {
						t.Fatalf("%v: %q shares bytes with %q", x, got, other)
					}
				}
			}
			given = append(given, l...)
		}
	}
}

// R5: a master that changes later changes no suite.
func TestMasterKept(t *testing.T) {
	for n := 1; n <= 64; n++ {
		b := []byte(rep("m", n))
		z, e := suite.New(api.SuBytes, unsafe.String(&b[0], n))
		if e != api.OK {
			t.Fatal(int(e))
		}
		clear(b)
		got, e := z.Key("k")
		want, f := model{true, rep("m", n)}.key("k")
		expect(t, "Key", got, e, want, f)
	}
}

// R6: answers hang on the arguments alone: in any order, again, and at once.
func TestAgain(t *testing.T) {
	for _, x := range models() {
		z := x.suite(t)
		var group sync.WaitGroup
		for i := range 8 {
			group.Add(1)
			go func() {
				defer group.Done()
				for j := range 50 {
					name := fmt.Sprint("k/", (i*j)%7)
					got, e := z.Key(name)
					want, f := x.key(name)
					if got != want || e != f {
						t.Errorf("%v: Key(%q): %q", x, name, got)
					}
					got, e = z.Image(r(m(a(name), d("x")), s(a(name), d(twelve), d("x"))))
					want, f = x.image(r(m(a(name), d("x")), s(a(name), d(twelve), d("x"))))
					if got != want || e != f {
						t.Errorf("%v: Image: %q", x, got)
					}
				}
			}()
		}
		group.Wait()
	}
}

// R1: strings of millions of bytes, everywhere.
func TestGreat(t *testing.T) {
	great := []string{rep("h", 3<<20), rep("r\x20", 1<<20), d("") + rep("x", 3<<20), rep(d(""), 1<<20)}
	for _, x := range models() {
		z := x.suite(t)
		for _, y := range great {
			checkAlone(t, x, z, y)
			checkPair(t, x, z, y, d("x"))
			checkPair(t, x, z, d("x"), y)
			checkSeal(t, x, z, d("k"), d(twelve), y)
			checkSeal(t, x, z, d("k"), y, d("x"))
			got, e := z.Key(y)
			expect(t, "Key", got, e, "", api.ErrLong)
		}
	}
	if x, e := suite.New(api.SuBytes, great[0]); x != nil || e != api.ErrArg {
		t.Error("a great master")
	}
}

// The chapter's examples.
func TestExamples(t *testing.T) {
	terms, z := model{}.suite(t), model{true, "m"}.suite(t)
	k, j, n, y := a("k"), a("j"), d("n"), r(d("x"), a("y"))
	x, e := terms.Seal(k, n, y)
	expect(t, "Seal", x, e, s(k, n, y), api.OK)
	got, e := terms.Open(k, x)
	expect(t, "Open", got, e, y, api.OK)
	got, e = terms.Open(j, x)
	expect(t, "Open with another key", got, e, "", api.ErrTag)
	if got, e := z.Hash(d("0")); len(got) != 34 || e != api.OK {
		t.Errorf("Hash: %d bytes, %d", len(got), int(e))
	}
	got, e = z.Mac(a("k"), y)
	expect(t, "Mac", got, e, "", api.ErrArg)
	got, e = suite.Nonce(1, 2, 3)
	expect(t, "Nonce", got, e, "d\x0c\x00\x00\x00\x01\x00\x00\x00\x02\x00\x00\x00\x03", api.OK)
}
