package cipher_test

import (
	stdhmac "crypto/hmac"
	"crypto/sha256"
	"encoding/binary"
	"encoding/hex"
	"fmt"
	"math/rand"
	"strings"
	"sync"
	"testing"
	"unsafe"

	"chirograph/api"
	"chirograph/cipher"
)

const (
	nonce = "nonce of 12b"
	added = 44
)

// tagOf: the tag of s under key, by the library.
func tagOf(key, s string) string {
	m := stdhmac.New(sha256.New, []byte(key))
	m.Write([]byte(s))
	return string(m.Sum(nil))
}

// sealed: the sealed form of s as the chapter defines it, by the library; for any nonce and any length.
func sealed(key, nonce, s string) string {
	under := tagOf(key, "stream")
	var stream []byte
	for i := uint32(0); len(stream) < len(s); i++ {
		stream = append(stream, tagOf(under, string(binary.BigEndian.AppendUint32([]byte(nonce), i)))...)
	}
	hidden := []byte(nonce)
	for i := range len(s) {
		hidden = append(hidden, s[i]^stream[i])
	}
	return string(hidden) + tagOf(tagOf(key, "tag"), string(hidden))
}

// mixed: n bytes of which all that stand near each other differ; other bytes for another seed.
func mixed(seed, n int) string {
	b := make([]byte, n)
	for i := range b {
		b[i] = byte(i*167 + i>>8 + 11 + 29*seed)
	}
	return string(b)
}

// mustSeal: the sealed form that Seal returns.
func mustSeal(t *testing.T, key, nonce, s string) string {
	t.Helper()
	x, e := cipher.Seal(key, nonce, s)
	if e != api.OK {
		t.Fatalf("Seal of %d bytes: error %d", len(s), e)
	}
	return x
}

// opens: Open returns want.
func opens(t *testing.T, key, x, want string) {
	t.Helper()
	if got, e := cipher.Open(key, x); e != api.OK || got != want {
		t.Fatalf("Open of %d bytes: %.80q, error %d, not %.80q", len(x), got, e, want)
	}
}

// fails: Open returns the error, and nothing beside it.
func fails(t *testing.T, key, x string, want api.Errno, what string) {
	t.Helper()
	if got, e := cipher.Open(key, x); e != want || got != "" {
		t.Fatalf("%s: Open of %d bytes: %.80q, error %d, not %d", what, len(x), got, e, want)
	}
}

// refuses: Seal returns the error, and nothing beside it.
func refuses(t *testing.T, nonce, s string, want api.Errno) {
	t.Helper()
	if got, e := cipher.Seal("key", nonce, s); e != want || got != "" {
		t.Fatalf("Seal of %d bytes with a nonce of %d: %.80q, error %d, not %d", len(s), len(nonce), got, e, want)
	}
}

// vectors: keys, nonces, texts and sealed forms in hexadecimal, computed by another program.
func vectors() [][4]string {
	return [][4]string{
		{"", strings.Repeat("\x00", 12), "", "00000000000000000000000092cf7960996136b53642719cc54757c79f559f15d235f1b5bd4a114f081a1b19"},
		{"Jefe", nonce, "what do ya want for nothing?", "6e6f6e6365206f6620313262a295bc5f94af0b6850ad847917080d83a1179dc0403dfbee4d0dc3a375f54b4e4339cfcaa704af4460f71164f296ee2ec07ed33ee003c9fb9e5ccf6c"},
		{"\x00\x01\x02\x03\x04\x05\x06\x07\x08\x09\x0a\x0b\x0c\x0d\x0e\x0f\x10\x11\x12\x13\x14\x15\x16\x17\x18\x19\x1a\x1b\x1c\x1d\x1e\x1f", "\xc8\xc9\xca\xcb\xcc\xcd\xce\xcf\xd0\xd1\xd2\xd3", strings.Repeat("a", 32), "c8c9cacbcccdcecfd0d1d2d37bb8b099a57af0b1c49e4619cbe4d99a7ddcb5309fcb1423b344addb93cf4c870f91310e90fc508f7a4f779b6b3ef8c14d6aa2eb0d578d57f99f7a6675b5e7c0"},
		{strings.Repeat("k", 65), strings.Repeat("\xff", 12), "The quick brown fox jumps over the lazy dog", "ffffffffffffffffffffffffd4ede04468dc89882acf5bf09a0ed3d1c1479952e4d66567db82ce30b6ec65d25baded1a1afd826eabed2927af7bc3d02ba86161c6905176de792522c2d7c33f843510eef4bdbb8cb33493"},
		{"\x00\x01\x02\x03\x04\x05\x06\x07\x08\x09\x0a\x0b\x0c\x0d\x0e\x0f\x10\x11\x12\x13\x14\x15\x16\x17\x18\x19\x1a\x1b\x1c\x1d\x1e\x1f", strings.Repeat("\x00", 12), strings.Repeat("\x00", 66), "0000000000000000000000009aa1d1d8c2cabcb187525f2ad382440e0a022075d280e792d839cc1626f39e8450bc428da6c76b2ab52c97917b87ed3f08c40cd9eade1bce23e58320edaf930281c8fa81ecd2751d50ebd64f88b229952aa48be0ab7c4fb3b6ec57445346886d9653"},
	}
}

// P4.1, P4.2: forms that another program computed.
func TestVectors(t *testing.T) {
	for _, v := range vectors() {
		x := mustSeal(t, v[0], v[1], v[2])
		if got := hex.EncodeToString([]byte(x)); got != v[3] {
			t.Errorf("Seal(%q, %q, %q): %s, not %s", v[0], v[1], v[2], got, v[3])
		}
		opens(t, v[0], x, v[2])
	}
	hash := sha256.Sum256([]byte(mustSeal(t, "key", "0123456789ab", strings.Repeat("\x00", api.MaxPlain))))
	if got := hex.EncodeToString(hash[:]); got != "5786a619fb2ce4db0c369edddb9fdc50ba03390aa4d3a83f9b1ad93fa55c9f9e" {
		t.Errorf("the longest string of bytes 0: its sealed form has the hash %s", got)
	}
}

// P4.1, P4.2, P4.3: the examples of the chapter.
func TestExamples(t *testing.T) {
	for _, key := range []string{"", "key", mixed(0, 100)} {
		if x := mustSeal(t, key, nonce, ""); len(x) != 44 || x[:12] != nonce {
			t.Errorf("the sealed form of the empty string: %x", x)
		}
		fails(t, key, strings.Repeat("\x00", 43), api.ErrEnd, "43 bytes")
		fails(t, key, strings.Repeat("\x00", 44), api.ErrFit, "44 bytes 0")
	}
}

// P4.1, P4.2, P4.3: every length about the ends of the stream's first parts, sealed, opened, and sealed again.
func TestLengths(t *testing.T) {
	for n := range 330 {
		key, s := mixed(n, n%90), mixed(1, n)
		want := sealed(key, nonce, s)
		if len(want) != n+added {
			t.Fatalf("the sealed form of %d bytes has %d", n, len(want))
		}
		if got := mustSeal(t, key, nonce, s); got != want {
			t.Fatalf("Seal of %d bytes: %x, not %x", n, got, want)
		}
		opens(t, key, want, s)
		again, _ := cipher.Open(key, want)
		if mustSeal(t, key, want[:api.NonceLen], again) != want {
			t.Fatalf("%d bytes that were opened: sealed to other bytes", n)
		}
	}
}

// P4.1, P4.2, P4.3: lengths where the number of a part needs another byte, and those about the limit.
func TestLong(t *testing.T) {
	for _, n := range []int{8159, 8160, 8161, 8191, 8192, 8193, 8224, 8225, 16384, 30000, 65503, 65504, 65505, 65535, 65536} {
		s := mixed(2, n)
		want := sealed("key", nonce, s)
		if mustSeal(t, "key", nonce, s) != want {
			t.Errorf("Seal of %d bytes: not its sealed form", n)
		}
		opens(t, "key", want, s)
	}
}

// P4.1: a string beyond the limit.
func TestSealTooLong(t *testing.T) {
	for _, n := range []int{65537, 65538, 65580, 65581, 131072, 1 << 20} {
		refuses(t, nonce, mixed(3, n), api.ErrLong)
	}
}

// P4.1, R2: a nonce that has not 12 bytes, which is told even of a string beyond the limit.
func TestSealNonce(t *testing.T) {
	for n := range 300 {
		if n == 12 {
			continue
		}
		for _, long := range []int{0, 1, 44, 65536, 65537, 70000} {
			refuses(t, mixed(4, n), mixed(5, long), api.ErrArg)
		}
	}
	refuses(t, mixed(4, 12+256), "", api.ErrArg)
	refuses(t, mixed(4, 12+65536), "", api.ErrArg)
}

// P4.1, P4.2: each byte of a nonce counts, and each value that it may have.
func TestNonceBytes(t *testing.T) {
	s := mixed(6, 70)
	for at := range 12 {
		for c := range 256 {
			b := []byte(nonce)
			b[at] = byte(c)
			want := sealed("key", string(b), s)
			if got := mustSeal(t, "key", string(b), s); got != want {
				t.Fatalf("a nonce with %d at %d: %x, not %x", c, at, got, want)
			}
			opens(t, "key", want, s)
		}
	}
}

// P4.1, P4.2: keys of every length; each byte of one counts, and each value that it may have.
func TestKeys(t *testing.T) {
	s := mixed(7, 50)
	for _, n := range []int{0, 1, 2, 31, 32, 33, 63, 64, 65, 130, 5000} {
		key := mixed(8, n)
		want := sealed(key, nonce, s)
		if got := mustSeal(t, key, nonce, s); got != want {
			t.Errorf("a key of %d bytes: %x, not %x", n, got, want)
		}
		opens(t, key, want, s)
	}
	for at := range 33 {
		for c := range 256 {
			b := []byte(mixed(8, 33))
			b[at] = byte(c)
			if got, want := mustSeal(t, string(b), nonce, s), sealed(string(b), nonce, s); got != want {
				t.Fatalf("a key with %d at %d: %x, not %x", c, at, got, want)
			}
		}
	}
}

// P4.1, P4.2, P4.3: each value that a byte of a string may have.
func TestStringBytes(t *testing.T) {
	for at := range 40 {
		for c := range 256 {
			b := []byte(mixed(9, 40))
			b[at] = byte(c)
			want := sealed("key", nonce, string(b))
			if got := mustSeal(t, "key", nonce, string(b)); got != want {
				t.Fatalf("a string with %d at %d: %x, not %x", c, at, got, want)
			}
			opens(t, "key", want, string(b))
		}
	}
}

// P4.1, P4.2, P4.3: any keys, nonces and strings.
func TestAny(t *testing.T) {
	r := rand.New(rand.NewSource(4))
	some := func(n int) string {
		b := make([]byte, n)
		r.Read(b)
		return string(b)
	}
	for range 500 {
		key, nonce, s := some(r.Intn(100)), some(12), some(r.Intn(3000))
		want := sealed(key, nonce, s)
		if got := mustSeal(t, key, nonce, s); got != want {
			t.Fatalf("Seal(%x, %x, %x): %x, not %x", key, nonce, s, got, want)
		}
		opens(t, key, want, s)
		x := some(r.Intn(500))
		wrong := api.Errno(api.ErrFit)
		if len(x) < added {
			wrong = api.ErrEnd
		}
		fails(t, key, x, wrong, "bytes of any kind")
	}
}

// P4.2, R2: fewer than 44 bytes, be they of a sealed form, or with a tag that fits.
func TestOpenTooShort(t *testing.T) {
	whole := sealed("key", nonce, "abc")
	for n := range added {
		fails(t, "key", whole[:n], api.ErrEnd, "the beginning of a form")
		fails(t, "key", whole[len(whole)-n:], api.ErrEnd, "the end of a form")
		fails(t, "key", strings.Repeat("\x00", n), api.ErrEnd, "bytes 0")
		if n < api.NonceLen {
			short := sealed("key", mixed(10, n), "")
			fails(t, "key", short, api.ErrEnd, "a nonce that is too short")
		}
	}
	fails(t, "", "", api.ErrEnd, "nothing")
}

// P4.2, R2: more bytes than the longest string's form has, be their tag one that fits or not.
func TestOpenTooLong(t *testing.T) {
	for _, n := range []int{65537, 65538, 65580, 131072, 1 << 20} {
		fails(t, "key", sealed("key", nonce, mixed(11, n)), api.ErrLong, "a form that is too long")
		fails(t, "key", mixed(12, n+added), api.ErrLong, "other bytes")
	}
	fails(t, "key", mixed(12, api.MaxPlain+added), api.ErrFit, "no more bytes than the longest form")
	fails(t, "key", mixed(12, api.MaxPlain+added+1), api.ErrLong, "a byte more than the longest form")
}

// P4.3: a form with any one bit turned, and with any other byte in any one place.
func TestAlteredBits(t *testing.T) {
	for _, n := range []int{0, 1, 20, 32, 33, 64, 70} {
		x := sealed("key", nonce, mixed(13, n))
		for at := range len(x) {
			for c := 1; c < 256; c++ {
				b := []byte(x)
				b[at] ^= byte(c)
				fails(t, "key", string(b), api.ErrFit, fmt.Sprintf("byte %d of %d altered by %d", at, len(x), c))
			}
		}
	}
	x := sealed("key", nonce, mixed(13, api.MaxPlain))
	for at := 0; at < len(x); at += 1009 {
		b := []byte(x)
		b[at] ^= 1
		fails(t, "key", string(b), api.ErrFit, "the longest form, altered")
	}
}

// P4.3: a form without some bytes, with more, or with bytes that have changed places.
func TestAlteredParts(t *testing.T) {
	x := sealed("key", nonce, mixed(14, 80))
	for at := range len(x) {
		for _, n := range []int{1, 2, 32} {
			if at+n <= len(x) {
				fails(t, "key", x[:at]+x[at+n:], api.ErrFit, "bytes taken out")
			}
			fails(t, "key", x[:at]+strings.Repeat("\x00", n)+x[at:], api.ErrFit, "bytes 0 put in")
			fails(t, "key", x[:at]+mixed(15, n)+x[at:], api.ErrFit, "bytes put in")
		}
		if at+1 < len(x) && x[at] != x[at+1] {
			b := []byte(x)
			b[at], b[at+1] = b[at+1], b[at]
			fails(t, "key", string(b), api.ErrFit, "bytes that have changed places")
		}
	}
	fails(t, "key", x+x, api.ErrFit, "a form twice")
	fails(t, "key", x+"\x00", api.ErrFit, "a byte 0 behind")
}

// P4.3: parts of two forms under one key, put together.
func TestMixedForms(t *testing.T) {
	a, b := sealed("key", nonce, mixed(16, 40)), sealed("key", mixed(17, 12), mixed(18, 40))
	opens(t, "key", a, mixed(16, 40))
	opens(t, "key", b, mixed(18, 40))
	for at := 1; at < len(a); at++ {
		fails(t, "key", a[:at]+b[at:], api.ErrFit, "a form with another one's end")
		fails(t, "key", b[:at]+a[at:], api.ErrFit, "a form with another one's end")
	}
}

// P4.2: a form is opened under its own key, and no other one.
func TestOtherKeys(t *testing.T) {
	key := mixed(19, 32)
	x := sealed(key, nonce, "abc")
	for at := range len(key) {
		for bit := range 8 {
			b := []byte(key)
			b[at] ^= 1 << bit
			fails(t, string(b), x, api.ErrFit, "another key")
		}
	}
	for _, other := range []string{"", key[1:], key[:31], key + "x", key + key, tagOf(key, "stream"), tagOf(key, "tag")} {
		fails(t, other, x, api.ErrFit, "another key")
	}
}

// P4.2: tags that are near the right one, under other keys or of other bytes.
func TestOtherTags(t *testing.T) {
	x := sealed("key", nonce, "abc")
	hidden := x[:len(x)-32]
	opens(t, "key", hidden+tagOf(tagOf("key", "tag"), hidden), "abc")
	for _, tag := range []string{
		tagOf("key", hidden), tagOf(tagOf("key", "stream"), hidden), tagOf("tag", hidden), tagOf(tagOf("key", ""), hidden),
		tagOf(tagOf("tag", "key"), hidden), tagOf(tagOf("key", "tag"), hidden[12:]), tagOf(tagOf("key", "tag"), nonce),
		tagOf(tagOf("key", "tag"), "abc"), tagOf(tagOf("key", "tag"), nonce+"abc"), strings.Repeat("\x00", 32),
	} {
		fails(t, "key", hidden+tag, api.ErrFit, "another tag")
	}
}

// P4.3: two strings sealed with the same nonce reveal their xor; with another nonce, or under another key, they do not.
func TestNonceAgain(t *testing.T) {
	a, b := mixed(20, 100), mixed(21, 100)
	xor := func(a, b string) string {
		var l []byte
		for i := range len(a) {
			l = append(l, a[i]^b[i])
		}
		return string(l)
	}
	body := func(key, nonce, s string) string {
		x := mustSeal(t, key, nonce, s)
		return x[12 : len(x)-32]
	}
	if xor(body("key", nonce, a), body("key", nonce, b)) != xor(a, b) {
		t.Error("the same nonce, under the same key: not the strings' xor")
	}
	if xor(body("key", nonce, a), body("key", mixed(22, 12), b)) == xor(a, b) {
		t.Error("another nonce: the strings' xor")
	}
	if xor(body("key", nonce, a), body("kez", nonce, b)) == xor(a, b) {
		t.Error("another key: the strings' xor")
	}
	if !strings.HasPrefix(body("key", nonce, a), body("key", nonce, a[:33])) {
		t.Error("a string's beginning is hidden otherwise than in the whole")
	}
}

// R6: calls leave nothing behind, those at the same time included.
func TestTogether(t *testing.T) {
	var w sync.WaitGroup
	got := make([]string, 32)
	for i := range got {
		w.Go(func() {
			for range 20 {
				x, _ := cipher.Seal(mixed(i, 20), nonce, mixed(i, 150))
				cipher.Open(mixed(i+1, 20), x)
				got[i], _ = cipher.Open(mixed(i, 20), x)
			}
		})
	}
	w.Wait()
	for i, g := range got {
		if g != mixed(i, 150) {
			t.Errorf("string %d: %x", i, g)
		}
	}
}

// R5: an answer is new memory, and an argument is neither changed nor kept.
func TestMemory(t *testing.T) {
	bytes := func(s string) []byte { return []byte(s) }
	text := func(b []byte) string { return unsafe.String(&b[0], len(b)) }
	for _, n := range []int{1, 32, 100} {
		key, once, s := bytes("key"), bytes(nonce), bytes(mixed(23, n))
		x := mustSeal(t, text(key), text(once), text(s))
		form := bytes(x)
		back, _ := cipher.Open(text(key), text(form))
		if string(key) != "key" || string(once) != nonce || string(s) != mixed(23, n) || string(form) != x {
			t.Fatal("an argument is changed")
		}
		clear(key)
		clear(once)
		clear(s)
		clear(form)
		if x != sealed("key", nonce, mixed(23, n)) || back != mixed(23, n) {
			t.Errorf("an answer of %d bytes changes with the argument", n)
		}
	}
}
