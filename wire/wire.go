// Package wire is layer 1: a binary encoding of numbers, texts and lists of texts.
package wire

import (
	"math/bits"

	"footbridge/api"
)

// maxBytes is the greatest number of bytes that may follow the first byte of a number: MaxNum needs as many.
const maxBytes = 7

// Num encodes a number from 0 to MaxNum: how many bytes follow, and these bytes, the greatest first.
func Num(n int) (string, api.Errno) {
	if n < 0 || n > api.MaxNum {
		return "", api.ErrRange
	}
	return string(appendNum(nil, n)), api.OK
}

// Text encodes a string of at most MaxText bytes: its length, and its bytes.
func Text(s string) (string, api.Errno) {
	if len(s) > api.MaxText {
		return "", api.ErrLong
	}
	return string(appendText(nil, s)), api.OK
}

// Join encodes a list of at most MaxList strings: its length, and each of them as a text.
func Join(l []string) (string, api.Errno) {
	if len(l) > api.MaxList {
		return "", api.ErrLong
	}
	out := appendNum(nil, len(l))
	for _, s := range l {
		if len(s) > api.MaxText {
			return "", api.ErrLong
		}
		out = appendText(out, s)
	}
	return string(out), api.OK
}

// appendNum takes only numbers that its callers have found to be in range, so that it has no error to tell.
func appendNum(out []byte, n int) []byte {
	count := (bits.Len64(uint64(n)) + 7) / 8
	out = append(out, byte(count))
	for i := count - 1; i >= 0; i-- {
		out = append(out, byte(n>>(8*i)))
	}
	return out
}

// appendText takes only strings that its callers have found to be short enough, so that it has no error to tell.
func appendText(out []byte, s string) []byte {
	return append(appendNum(out, len(s)), s...)
}

// Reader decodes one value after the other, and keeps its first error: a caller may read all that it wants and ask once.
type Reader struct {
	rest string
	err  api.Errno
}

// New returns a reader that stands at the beginning of s.
func New(s string) *Reader { return &Reader{rest: s} }

// Num decodes the next number.
func (r *Reader) Num() int {
	if r.Err() != api.OK {
		return 0
	}
	n, size, err := decodeNum(r.rest)
	if err != api.OK {
		r.err = err
		return 0
	}
	r.rest = r.rest[size:]
	return n
}

// Text decodes the next text.
func (r *Reader) Text() string {
	size := r.length(api.MaxText)
	if r.Err() != api.OK {
		return ""
	}
	if size > len(r.rest) {
		r.err = api.ErrCut
		return ""
	}
	s := r.rest[:size]
	r.rest = r.rest[size:]
	return s
}

// List decodes the next list of texts.
func (r *Reader) List() []string {
	count := r.length(api.MaxList)
	var l []string
	for range count {
		l = append(l, r.Text())
		if r.Err() != api.OK {
			return nil
		}
	}
	return l
}

// Err returns the first error, or OK.
func (r *Reader) Err() api.Errno {
	if r == nil {
		return api.ErrNil
	}
	return r.err
}

// Done returns the first error, or ErrForm if bytes are left. That is no error of the reader: it may read on.
func (r *Reader) Done() api.Errno {
	if r.Err() != api.OK {
		return r.Err()
	}
	if r.rest != "" {
		return api.ErrForm
	}
	return api.OK
}

// length decodes a number that may not be above most; it is 0 if there is an error, so that nothing is read for it.
func (r *Reader) length(most int) int {
	n := r.Num()
	if n > most {
		r.err = api.ErrLong
		return 0
	}
	return n
}

// decodeNum returns the number at the beginning of s, and how many bytes of s it takes.
func decodeNum(s string) (int, int, api.Errno) {
	if s == "" {
		return 0, 0, api.ErrCut
	}
	count, digits := int(s[0]), s[1:]
	if count > maxBytes {
		return 0, 0, api.ErrForm
	}
	// A zero in front would give a number a second encoding; it is told ahead of bytes that lack.
	if count > 0 && digits != "" && digits[0] == 0 {
		return 0, 0, api.ErrForm
	}
	if count > len(digits) {
		return 0, 0, api.ErrCut
	}
	n := bigEndian(digits[:count])
	if n > api.MaxNum {
		return 0, 0, api.ErrRange
	}
	return n, 1 + count, api.OK
}

// bigEndian takes at most maxBytes bytes, which an int holds.
func bigEndian(digits string) int {
	n, i := 0, 0
next:
	if i < len(digits) {
		n = n<<8 | int(digits[i])
		i++
		goto next
	}
	return n
}
