package hmac_test

import (
	stdhmac "crypto/hmac"
	"crypto/sha256"
	"encoding/hex"
	"math/rand"
	"reflect"
	"strings"
	"sync"
	"testing"
	"time"
	"unsafe"

	"chirograph/hmac"
)

// standard: the tag of s under key, by the library.
func standard(key, s string) string {
	m := stdhmac.New(sha256.New, []byte(key))
	m.Write([]byte(s))
	return string(m.Sum(nil))
}

// hash: that of s, by the library.
func hash(s string) string {
	b := sha256.Sum256([]byte(s))
	return string(b[:])
}

// mixed: n bytes of which all that stand near each other differ; other bytes for another seed.
func mixed(seed, n int) string {
	b := make([]byte, n)
	for i := range b {
		b[i] = byte(i*167 + i>>8 + 11 + 29*seed)
	}
	return string(b)
}

// vectors: keys, texts and tags in hexadecimal; the examples of the chapter among them, and those of RFC 4231.
func vectors() [][3]string {
	return [][3]string{
		{"Jefe", "what do ya want for nothing?", "5bdcc146bf60754e6a042426089575c75a003f089d2739839dec58b964ec3843"},
		{strings.Repeat("\x0b", 20), "Hi There", "b0344c61d8db38535ca8afceaf0bf12b881dc200c9833da726e9376c2e32cff7"},
		{strings.Repeat("\xaa", 20), strings.Repeat("\xdd", 50), "773ea91e36800e46854db8ebd09181a72959098b3ef8c122d9635514ced565fe"},
		{"\x01\x02\x03\x04\x05\x06\x07\x08\x09\x0a\x0b\x0c\x0d\x0e\x0f\x10\x11\x12\x13\x14\x15\x16\x17\x18\x19", strings.Repeat("\xcd", 50), "82558a389a443c0ea4cc819899f2083a85f0faa3e578f8077a2e3ff46729665b"},
		{strings.Repeat("\xaa", 131), "Test Using Larger Than Block-Size Key - Hash Key First", "60e431591ee0b67f0d8a26aacbf5b77f8e0bc6213728c5140546040f0ee37f54"},
		{strings.Repeat("\xaa", 131), "This is a test using a larger than block-size key and a larger than block-size data. The key needs to be hashed before being used by the HMAC algorithm.", "9b09ffa71b942fcb27635fbcd5b0e944bfdc63644f0713938a7f51535c3a35e2"},
		{"", "", "b613679a0814d9ec772f95d778c35fc5ff1697c493715653c6c712144292c5ad"},
		{"key", "The quick brown fox jumps over the lazy dog", "f7bc83f430538424b13298e6aa6fb143ef4d59a14946175997479dbc2d1a3cd8"},
	}
}

// P3.1, P3.2: what the standard gives, at once and by a key that is ready.
func TestVectors(t *testing.T) {
	for _, v := range vectors() {
		if got := hex.EncodeToString([]byte(hmac.Sum(v[0], v[1]))); got != v[2] {
			t.Errorf("Sum(%.40q, %.40q): %s, not %s", v[0], v[1], got, v[2])
		}
		if got := hex.EncodeToString([]byte(hmac.New(v[0]).Sum(v[1]))); got != v[2] {
			t.Errorf("New(%.40q).Sum(%.40q): %s, not %s", v[0], v[1], got, v[2])
		}
	}
}

// P3.1, P3.2: keys and texts of every length about the ends of the first blocks.
func TestLengths(t *testing.T) {
	for n := range 200 {
		key := mixed(1, n)
		k := hmac.New(key)
		for m := range 200 {
			s := mixed(2, m)
			want := standard(key, s)
			if got := hmac.Sum(key, s); got != want {
				t.Fatalf("Sum of %d bytes under a key of %d: %x, not %x", m, n, got, want)
			}
			if got := k.Sum(s); got != want {
				t.Fatalf("New of %d bytes, Sum of %d: %x, not %x", n, m, got, want)
			}
		}
	}
}

// P3.1: each byte of a key counts, and each value that it may have.
func TestKeyBytes(t *testing.T) {
	for _, n := range []int{1, 32, 63, 64, 65, 100} {
		for at := range n {
			for c := range 256 {
				b := []byte(mixed(3, n))
				b[at] = byte(c)
				if got, want := hmac.Sum(string(b), "abc"), standard(string(b), "abc"); got != want {
					t.Fatalf("a key of %d bytes with %d at %d: %x, not %x", n, c, at, got, want)
				}
			}
		}
	}
}

// P3.1, P3.2: long ones, and bytes of any kind.
func TestAny(t *testing.T) {
	r := rand.New(rand.NewSource(3))
	some := func(most int) string {
		b := make([]byte, r.Intn(most+1))
		r.Read(b)
		return string(b)
	}
	for range 300 {
		key, s := some(3000), some(3000)
		if got, want := hmac.Sum(key, s), standard(key, s); got != want {
			t.Fatalf("Sum(%x, %x): %x, not %x", key, s, got, want)
		}
	}
	long := mixed(4, 3<<20)
	if hmac.Sum("k", long) != standard("k", long) || hmac.Sum(long, "s") != standard(long, "s") {
		t.Error("a text, or a key, of 3 MiB")
	}
}

// P3.2: a key is the same after each tag, whichever keys are ready beside it.
func TestKeySumAgain(t *testing.T) {
	r := rand.New(rand.NewSource(4))
	var keys []string
	var ready []*hmac.Key
	for i := range 20 {
		keys = append(keys, mixed(i, i*7))
		ready = append(ready, hmac.New(keys[i]))
	}
	for range 5000 {
		i, s := r.Intn(len(keys)), mixed(r.Intn(256), r.Intn(200))
		if got, want := ready[i].Sum(s), standard(keys[i], s); got != want {
			t.Fatalf("key %d, %x: %x, not %x", i, s, got, want)
		}
	}
	k := hmac.New("Jefe")
	first := k.Sum("a")
	if k.Sum("") != standard("Jefe", "") || k.Sum("a") != first {
		t.Error("the tag of the same text is another one later")
	}
}

// P3.2, R6: tags under one key, made at the same time, do not touch each other.
func TestKeySumTogether(t *testing.T) {
	k := hmac.New("Jefe")
	got := make([]string, 64)
	var w sync.WaitGroup
	for i := range got {
		w.Go(func() {
			for range 50 {
				got[i] = k.Sum(mixed(i, 150))
			}
		})
	}
	w.Wait()
	for i, g := range got {
		if g != standard("Jefe", mixed(i, 150)) {
			t.Errorf("tag %d: %x", i, g)
		}
	}
}

// P3.2, R3: a key that is not there.
func TestNilKey(t *testing.T) {
	var k *hmac.Key
	for _, s := range []string{"", "abc", mixed(0, 100)} {
		if got := k.Sum(s); got != "" {
			t.Errorf("%q of a nil key: %x", s, got)
		}
	}
}

// P3.2, R1: New gives a key for any text, none that is nil.
func TestNew(t *testing.T) {
	for _, key := range []string{"", "\x00", mixed(5, 64), mixed(5, 65), mixed(5, 5000)} {
		if k := hmac.New(key); k == nil || len(k.Sum("")) != 32 {
			t.Errorf("New of %d bytes", len(key))
		}
	}
}

// P3.2: what embeds the sum under way does not show its calls as a key's own.
func TestKeyMethods(t *testing.T) {
	k := reflect.TypeOf(hmac.New(""))
	if k.NumMethod() != 1 || k.Method(0).Name != "Sum" {
		t.Errorf("a key has %d methods", k.NumMethod())
	}
	if n := k.Elem().NumMethod(); n != 0 {
		t.Errorf("a key that is no pointer has %d methods", n)
	}
}

// P3.2: equal texts, and those that differ in one bit, wherever it is.
func TestSame(t *testing.T) {
	for n := range 70 {
		a := mixed(6, n)
		if !hmac.Same(a, strings.Clone(a)) || !hmac.Same(a, a) {
			t.Fatalf("%d equal bytes are not the same", n)
		}
		for at := range n {
			for bit := range 8 {
				b := []byte(a)
				b[at] ^= 1 << bit
				if hmac.Same(a, string(b)) || hmac.Same(string(b), a) {
					t.Fatalf("%d bytes are the same, though bit %d of byte %d differs", n, bit, at)
				}
			}
		}
	}
}

// P3.2: differences that would cancel each other out, or add up to 256.
func TestSameMany(t *testing.T) {
	for _, p := range [][2]string{
		{"ab", "ba"}, {"aa", "bb"}, {"\x00\x00", "\x80\x80"}, {"\x00\x00", "\xff\x01"}, {"\x00\x00", "\xff\xff"},
		{strings.Repeat("\x00", 256), strings.Repeat("\x01", 256)}, {strings.Repeat("\x00", 32), strings.Repeat("\xff", 32)},
	} {
		if hmac.Same(p[0], p[1]) || hmac.Same(p[1], p[0]) {
			t.Errorf("%q and %q are the same", p[0], p[1])
		}
	}
}

// P3.2: texts of different lengths, one of which the other begins or ends with.
func TestSameLengths(t *testing.T) {
	if !hmac.Same("", "") {
		t.Error("the empty text is not the same as itself")
	}
	for n := range 70 {
		a := strings.Repeat("\x00", n)
		for m := range n {
			if hmac.Same(a, a[:m]) || hmac.Same(a[:m], a) {
				t.Fatalf("%d bytes 0 are the same as %d", n, m)
			}
		}
		b := mixed(7, n)
		if n > 0 && (hmac.Same(b, b[1:]) || hmac.Same(b[1:], b) || hmac.Same(b, b[:n-1]) || hmac.Same(b[:n-1], b)) {
			t.Fatalf("%d bytes are the same as a part of them", n)
		}
	}
}

// P3.2: every byte is examined. An end at the first difference would be quicker by thousands of times; a factor of four is left to the machine.
func TestSameTime(t *testing.T) {
	a := mixed(8, 4<<20)
	others := []string{strings.Clone(a)}
	for _, at := range []int{0, 31, len(a) / 8, len(a) - 1} {
		b := []byte(a)
		b[at] ^= 1
		others = append(others, string(b))
	}
	all := []byte(a)
	for i := range all {
		all[i] ^= 0xff
	}
	others = append(others, string(all))
	// The least time of many, taken in turns: what else the machine does then falls on all of them.
	least := make([]time.Duration, len(others))
	for round := range 12 {
		for i, b := range others {
			begin := time.Now()
			hmac.Same(a, b)
			if d := time.Since(begin); round == 0 || d < least[i] {
				least[i] = d
			}
		}
	}
	for i, d := range least {
		if d < least[0]/4 {
			t.Errorf("text %d is told in %v, an equal one in %v", i, d, least[0])
		}
	}
}

// P3.3: a key of more than 64 bytes is its hash; one of fewer is padded with bytes 0; one of 64 is neither.
func TestKeysAlike(t *testing.T) {
	alike := func(a, b string) bool {
		s := mixed(9, 77)
		x, y := hmac.New(a), hmac.New(b)
		return hmac.Sum(a, s) == hmac.Sum(b, s) && x.Sum(s) == y.Sum(s) && x.Sum("") == y.Sum("")
	}
	for n := range 200 {
		key := mixed(10, n)
		if got := alike(key, hash(key)); got != (n > 64) {
			t.Errorf("a key of %d bytes, and its hash: alike %v", n, got)
		}
		for m := 1; m <= 70; m++ {
			padded := key + strings.Repeat("\x00", m)
			if got := alike(key, padded); got != (n+m <= 64) {
				t.Errorf("a key of %d bytes, and the same padded to %d: alike %v", n, n+m, got)
			}
		}
		if n > 0 && alike(key, "\x00"+key) || alike(key, key+"\x01") {
			t.Errorf("a key of %d bytes, and another one: alike", n)
		}
	}
}

// R5: an answer is new memory, and is no part of what the next one is made in.
func TestNewMemory(t *testing.T) {
	key := mixed(11, 32)
	k := hmac.New(key)
	a := k.Sum("abc")
	kept := strings.Clone(a)
	b := k.Sum("abc")
	k.Sum("xyz")
	if a != kept || b != kept {
		t.Error("a tag changes when another one is made")
	}
	if unsafe.StringData(a) == unsafe.StringData(b) {
		t.Error("two tags share their bytes")
	}
}

// R5: a key keeps nothing of what it was made of.
func TestKeyNotKept(t *testing.T) {
	for _, n := range []int{3, 32, 63, 64, 65, 130} {
		b := []byte(mixed(12, n))
		k := hmac.New(unsafe.String(&b[0], n))
		s := []byte("abc")
		got := k.Sum(unsafe.String(&s[0], len(s)))
		if string(b) != mixed(12, n) || string(s) != "abc" {
			t.Fatal("an argument is changed")
		}
		clear(b)
		clear(s)
		if want := standard(mixed(12, n), "abc"); got != want || k.Sum("abc") != want {
			t.Errorf("a key of %d bytes changes with the bytes that it was made of", n)
		}
	}
}
