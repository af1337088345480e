// Package octet encodes numbers and strings as bytes: each value in exactly one way, numbers in their order.
package octet

import (
	"iter"
	"strings"

	"chirograph/api"
)

// wide is the least number that is not its own byte; the byte wide-1+k says that a number of k bytes follows.
const wide = 248

// numLen is the length of the longest encoding: its first byte, and those of the greatest uint64.
const numLen = 1 + 8

// Num returns the encoding of v.
func Num(v uint64) string {
	var b [numLen]byte
	at := len(b) - 1
	if v < wide {
		b[at] = byte(v)
		return string(b[at:])
	}
	for ; v > 0; v >>= 8 {
		b[at] = byte(v)
		at--
	}
	k := len(b) - 1 - at
	b[at] = byte(wide - 1 + k)
	return string(b[at:])
}

// Text returns the encoding of s.
func Text(s string) string { return Num(uint64(len(s))) + s }

// ReadNum returns the number whose encoding s begins with, and that encoding's length.
func ReadNum(s string) (v uint64, n int, e api.Errno) {
	if s == "" {
		return 0, 0, api.ErrEnd
	}
	if s[0] < wide {
		return uint64(s[0]), 1, api.OK
	}
	k := int(s[0]) - (wide - 1)
	digits := s[1:]
	if len(digits) < k {
		return 0, 0, api.ErrEnd
	}
	// A shorter encoding of the same number exists: only the shortest one counts.
	if digits[0] == 0 || k == 1 && digits[0] < wide {
		return 0, 0, api.ErrForm
	}
	for i := range k {
		v = v<<8 | uint64(digits[i])
	}
	return v, 1 + k, api.OK
}

// ReadText returns the string of at most most bytes whose encoding s begins with, and that encoding's length.
func ReadText(s string, most int) (t string, n int, e api.Errno) {
	v, n, e := ReadNum(s)
	if e != api.OK {
		return "", 0, e
	}
	// Held against each other as uint64: a number may be greater than any int.
	if v > uint64(max(most, 0)) {
		return "", 0, api.ErrLong
	}
	size, rest := int(v), s[n:]
	if len(rest) < size {
		return "", 0, api.ErrEnd
	}
	// A copy, so that a short text does not keep a long s alive.
	return strings.Clone(rest[:size]), n + size, api.OK
}

// Row returns the encodings of the strings, one behind the other.
func Row(l ...string) string {
	var b strings.Builder
	for _, s := range l {
		b.WriteString(Text(s))
	}
	return b.String()
}

// piece is what stands next in a row: a text with its encoding's length, or why there is none.
type piece struct {
	text string
	size int
	err  api.Errno
}

// pieces goes over the texts that s begins with, each at most most bytes long; the first that can't be read is the last piece.
func pieces(s string, most int) iter.Seq[piece] {
	return func(yield func(piece) bool) {
		rest := s
		for {
			t, n, e := ReadText(rest, most)
			if !yield(piece{t, n, e}) || e != api.OK {
				return
			}
			rest = rest[n:]
		}
	}
}

// ReadRow returns the count strings whose encodings s begins with, each of at most most bytes, and the encodings' length.
func ReadRow(s string, count, most int) (l []string, n int, e api.Errno) {
	if count <= 0 {
		return nil, 0, api.OK
	}
	// l grows with what is read: count may be far more than there is.
row:
	for p := range pieces(s, most) {
		switch p.err {
		case api.OK:
			l, n = append(l, p.text), n+p.size
			if len(l) == count {
				break row
			}
		default:
			return nil, 0, p.err
		}
	}
	return l, n, api.OK
}
