package sha_test

import (
	"crypto/sha256"
	"encoding/hex"
	"math/rand"
	"strings"
	"testing"
	"unsafe"

	"chirograph/sha"
)

// standard: the hash of s, by the library.
func standard(s string) string {
	b := sha256.Sum256([]byte(s))
	return string(b[:])
}

// mixed: n bytes of which all that stand near each other differ.
func mixed(n int) string {
	b := make([]byte, n)
	for i := range b {
		b[i] = byte(i*167 + i>>8 + 11)
	}
	return string(b)
}

// expect: what has been written to h is s.
func expect(t *testing.T, what string, h *sha.Hash, s string) {
	t.Helper()
	if got := h.Sum(); got != standard(s) {
		t.Fatalf("%s: the hash of %d bytes is %x, not %x", what, len(s), got, standard(s))
	}
	if h.Len() != len(s) {
		t.Fatalf("%s: Len is %d, not %d", what, h.Len(), len(s))
	}
}

// P2.1: the examples of the chapter, and those of the standard.
func TestSum(t *testing.T) {
	for _, x := range []struct{ s, hash string }{
		{"", "e3b0c44298fc1c149afbf4c8996fb92427ae41e4649b934ca495991b7852b855"},
		{"abc", "ba7816bf8f01cfea414140de5dae2223b00361a396177a9cb410ff61f20015ad"},
		{"abcdbcdecdefdefgefghfghighijhijkijkljklmklmnlmnomnopnopq", "248d6a61d20638b8e5c026930c3e6039a33ce45964ff2167f6ecedd419db06c1"},
		{"abcdefghbcdefghicdefghijdefghijkefghijklfghijklmghijklmnhijklmnoijklmnopjklmnopqklmnopqrlmnopqrsmnopqrstnopqrstu", "cf5b16a778af8380036ce59e7b0492370b249b11e8f07a51afac45037afee9d1"},
		{strings.Repeat("a", 1000000), "cdc76e5c9914fb9281a1c7e284d73e67f1809a48a497200e046d39ccc7112cd0"},
		{"\xbd", "68325720aabd7c82f30f554b313d0570c95accbb7dc4b5aae11204c08ffe732b"},
		{"\xc9\x8c\x8e\x55", "7abc22c0ae5af26ce93dbb94433a0e0b2e119d014f8e7f65bd56c61ccccd9504"},
		{strings.Repeat("\x00", 55), "02779466cdec163811d078815c633f21901413081449002f24aa3e80f0b88ef7"},
		{strings.Repeat("\x00", 56), "d4817aa5497628e7c77e6b606107042bbba3130888c5f47a375e6179be789fbb"},
		{strings.Repeat("\x00", 57), "65a16cb7861335d5ace3c60718b5052e44660726da4cd13bb745381b235a1785"},
		{strings.Repeat("\x00", 64), "f5a5fd42d16a20302798ef6ed309979b43003d2320d9f0e8ea9831a92759fb4b"},
		{strings.Repeat("\x00", 1000), "541b3e9daa09b20bf85fa273e5cbd3e80185aa4ec298e765db87742b70138a53"},
		{strings.Repeat("A", 1000), "c2e686823489ced2017f6059b8b239318b6364f6dcd835d0a519105a1eadd6e4"},
		{strings.Repeat("U", 1005), "f4d62ddec0f3dd90ea1380fa16a5ff8dc4c54b21740650f24afc4120903552b0"},
	} {
		if got := hex.EncodeToString([]byte(sha.Sum(x.s))); got != x.hash {
			t.Errorf("Sum(%.60q), %d bytes: %s, not %s", x.s, len(x.s), got, x.hash)
		}
	}
}

// P2.1: every length about the ends of the first blocks, with bytes that are all alike and bytes that are not.
func TestSumLengths(t *testing.T) {
	for n := range 8*64 + 2 {
		for _, s := range []string{mixed(n), strings.Repeat("\x00", n), strings.Repeat("\xff", n), strings.Repeat("\x80", n)} {
			if got := sha.Sum(s); got != standard(s) {
				t.Fatalf("Sum of %d bytes: %x, not %x", n, got, standard(s))
			}
		}
	}
}

// P2.1: each byte of the message counts, and each value that it may have.
func TestSumBytes(t *testing.T) {
	for c := range 256 {
		for at := range 130 {
			b := make([]byte, 130)
			b[at] = byte(c)
			if s := string(b); sha.Sum(s) != standard(s) {
				t.Fatalf("Sum of 130 bytes with %d at %d", c, at)
			}
		}
	}
}

// P2.1: lengths that need more bytes in the last block.
func TestSumLong(t *testing.T) {
	r := rand.New(rand.NewSource(2))
	for _, n := range []int{8191, 8192, 8193, 65535, 65536, 1<<21 - 1, 1 << 21, 1<<21 + 57} {
		b := make([]byte, n)
		r.Read(b)
		if s := string(b); sha.Sum(s) != standard(s) {
			t.Errorf("Sum of %d bytes", n)
		}
	}
}

// P2.1, P2.2: a length in bits that 32 bits do not hold.
func TestSumVeryLong(t *testing.T) {
	t.Parallel()
	h, want := sha.New(), sha256.New()
	part := mixed(1 << 20)
	for range 512 {
		h.Write(part)
		want.Write([]byte(part))
	}
	h.Write("abc")
	want.Write([]byte("abc"))
	if h.Len() != 1<<29+3 {
		t.Errorf("Len: %d", h.Len())
	}
	if got := h.Sum(); got != string(want.Sum(nil)) {
		t.Errorf("Sum of 2^29 + 3 bytes: %x", got)
	}
}

// P2.2: what is written is appended; a sum takes nothing away, and more may be written after it.
func TestWrite(t *testing.T) {
	h := sha.New()
	expect(t, "New", h, "")
	var all string
	for i := range 300 {
		s := mixed(i % 150)
		h.Write(s)
		all += s
		expect(t, "Write", h, all)
		expect(t, "Sum again", h, all)
		h.Write("")
		expect(t, "Write of nothing", h, all)
	}
}

// P2.2: one Hash knows nothing of another one.
func TestNew(t *testing.T) {
	a, b := sha.New(), sha.New()
	a.Write(mixed(100))
	expect(t, "b", b, "")
	b.Write("abc")
	expect(t, "a", a, mixed(100))
	expect(t, "b", b, "abc")
	expect(t, "New", sha.New(), "")
	if sha.Sum("") != standard("") {
		t.Error("Sum of nothing, after other sums")
	}
}

// P2.2: a copy has what was written, and goes its own way, whichever of the two is written to first.
func TestCopy(t *testing.T) {
	s := mixed(200)
	for n := range len(s) {
		h := sha.New()
		h.Write(s[:n])
		c := h.Copy()
		if c == h {
			t.Fatal("the copy is the Hash itself")
		}
		expect(t, "Copy", c, s[:n])
		h.Write("one more, that goes over the end of the block that was begun, whatever that has")
		expect(t, "Copy, after the Hash went on", c, s[:n])
		c.Write(s[n:])
		expect(t, "Copy that goes on", c, s)
		expect(t, "Hash, after the copy went on", h, s[:n]+"one more, that goes over the end of the block that was begun, whatever that has")
		d := h.Copy()
		d.Write("d")
		expect(t, "Hash, after a second copy went on", h, s[:n]+"one more, that goes over the end of the block that was begun, whatever that has")
	}
}

// P2.2: on nil.
func TestNil(t *testing.T) {
	var h *sha.Hash
	h.Write("")
	h.Write("abc")
	h.Write(mixed(200))
	if s := h.Sum(); s != "" {
		t.Errorf("Sum: %x", s)
	}
	if n := h.Len(); n != 0 {
		t.Errorf("Len: %d", n)
	}
	if c := h.Copy(); c != nil {
		t.Error("Copy is not nil")
	}
}

// P2.3: every division into two writes, and into three, with sums and copies in between.
func TestDivided(t *testing.T) {
	for n := range 200 {
		s := mixed(n)
		for i := range n + 1 {
			h := sha.New()
			h.Write(s[:i])
			h.Write(s[i:])
			expect(t, "two writes", h, s)
		}
	}
	s := mixed(150)
	want := sha.Sum(s)
	for i := range len(s) + 1 {
		for j := i; j <= len(s); j++ {
			h := sha.New()
			h.Write(s[:i])
			h.Sum()
			h = h.Copy()
			h.Write(s[i:j])
			h.Copy().Write("elsewhere")
			h.Sum()
			h.Write(s[j:])
			if got := h.Sum(); got != want {
				t.Fatalf("three writes, divided at %d and %d: %x", i, j, got)
			}
		}
	}
}

// P2.3: byte by byte, and in many parts of many lengths.
func TestManyWrites(t *testing.T) {
	s := mixed(5000)
	h := sha.New()
	for i := range len(s) {
		h.Write(s[i : i+1])
		expect(t, "byte by byte", h, s[:i+1])
	}
	r := rand.New(rand.NewSource(1))
	for range 300 {
		h := sha.New()
		for at := 0; at < len(s); {
			n := min(r.Intn(1+r.Intn(300)), len(s)-at)
			h.Write(s[at : at+n])
			at += n
			switch r.Intn(4) {
			case 0:
				expect(t, "in between", h, s[:at])
			case 1:
				h = h.Copy()
			case 2:
				h.Copy().Write(s)
			}
		}
		expect(t, "in parts", h, s)
	}
}

// R5: nothing of what was written is kept as it stood, and a hash stays what it is.
func TestNewMemory(t *testing.T) {
	for _, n := range []int{3, 63, 64, 65, 200} {
		b := []byte(mixed(n))
		h := sha.New()
		h.Write(unsafe.String(&b[0], len(b)))
		first := h.Sum()
		if string(b) != mixed(n) {
			t.Errorf("Write changed its argument of %d bytes", n)
		}
		clear(b)
		expect(t, "Write, after its argument was overwritten", h, mixed(n))
		h.Write("more")
		h.Sum()
		if first != standard(mixed(n)) {
			t.Errorf("the hash of %d bytes changed when more was written", n)
		}
	}
}
