// Package num is layer 1: numbers and texts, one behind the other, the highest
// byte first (see shared/doc/01-num.md).
package num

import (
	"slices"

	"intarsia/api"
)

const (
	maxWidth  = 6
	maxLen    = 255 // a text's length stands in one byte
	signWidth = maxWidth
)

// Put lays a number in width bytes, the highest first.
func Put(n, width int) ([]byte, api.Errno) {
	if !mayBe(width) {
		return nil, api.ErrArg
	}
	if n < 0 || n >= 1<<(8*width) {
		return nil, api.ErrRange
	}
	b := make([]byte, width)
	for i := range width {
		b[width-1-i] = byte(n >> (8 * i))
	}
	return b, api.OK
}

// Get reads the number that the first width bytes tell.
func Get(b []byte, width int) (int, api.Errno) {
	if !mayBe(width) {
		return 0, api.ErrArg
	}
	if len(b) < width {
		return 0, api.ErrCut
	}
	n := 0
	for i := range width {
		n = n<<8 | int(b[i])
	}
	return n, api.OK
}

func mayBe(width int) bool { return 1 <= width && width <= maxWidth }

// Text lays a text: a byte of its length, and its bytes.
func Text(s string) ([]byte, api.Errno) {
	if len(s) > maxLen {
		return nil, api.ErrLong
	}
	return append([]byte{byte(len(s))}, s...), api.OK
}

// Sign lays a number with its sign, moved up by MaxInt, so that the bytes of
// numbers below 0 come ahead of those of the others.
func Sign(n int) ([]byte, api.Errno) {
	if n < -api.MaxInt || n > api.MaxInt {
		return nil, api.ErrRange
	}
	return Put(n+api.MaxInt, signWidth)
}

// Signed reads what Sign has laid.
func Signed(b []byte) (int, api.Errno) {
	n, err := Get(b, signWidth)
	if err != api.OK {
		return 0, err
	}
	if n > 2*api.MaxInt {
		return 0, api.ErrRange
	}
	return n - api.MaxInt, api.OK
}

// Reader takes numbers and texts off, up to the first error.
type Reader struct {
	left []byte
	err  api.Errno
}

// New makes a reader of the bytes as they are now: what becomes of b later is
// not seen, so the bytes are its own.
func New(b []byte) *Reader { return &Reader{left: slices.Clone(b)} }

// Num takes a number of width bytes off.
func (r *Reader) Num(width int) int {
	if r.Err() != api.OK {
		return 0
	}
	n, err := Get(r.left, width)
	r.take(width, err)
	return n
}

// Text takes a text off.
func (r *Reader) Text() string {
	if r.Err() != api.OK {
		return ""
	}
	s, err := text(r.left)
	r.take(1+len(s), err)
	return s
}

// text reads the text that the first bytes tell.
func text(b []byte) (string, api.Errno) {
	n, err := Get(b, 1)
	if err != api.OK {
		return "", err
	}
	if len(b) < 1+n {
		return "", api.ErrCut
	}
	return string(b[1 : 1+n]), api.OK
}

// Signed takes a number with its sign off.
func (r *Reader) Signed() int {
	if r.Err() != api.OK {
		return 0
	}
	n, err := Signed(r.left)
	r.take(signWidth, err)
	return n
}

// take moves the reader on behind n bytes, or keeps an error: then nothing is
// taken off any more, and the error stays the first one.
func (r *Reader) take(n int, err api.Errno) {
	if err != api.OK {
		r.err = err
		return
	}
	r.left = r.left[n:]
}

// Left tells how many bytes are left.
func (r *Reader) Left() int {
	if r == nil {
		return 0
	}
	return len(r.left)
}

// Err tells the first error.
func (r *Reader) Err() api.Errno {
	if r == nil {
		return api.ErrNil
	}
	return r.err
}

// Done tells the first error, or that bytes are left.
func (r *Reader) Done() api.Errno {
	if err := r.Err(); err != api.OK {
		return err
	}
	if r.Left() > 0 {
		return api.ErrForm
	}
	return api.OK
}
