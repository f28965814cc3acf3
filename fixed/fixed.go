// Package fixed is layer 1: numbers in fixed widths, and texts with their lengths; see shared/doc/01-fixed.md.
package fixed

import (
	"bytes"
	"errors"
	"math/bits"

	"foyer/api"
)

// maxText is the most bytes of a text: its length stands in one byte.
const maxText = 255

// number is what has bytes of one of the widths 1, 2, 4, 8.
type number interface {
	uint8 | uint16 | uint32 | uint64
}

// Reader has bytes, and a place in them: how many were taken.
type Reader struct {
	text  string
	place int
}

// New makes a reader of s, at its beginning.
func New(s string) *Reader { return &Reader{text: s} }

// U8 takes a number of the width 1.
func (r *Reader) U8() (uint8, error) { return next[uint8](r) }

// U16 takes a number of the width 2.
func (r *Reader) U16() (uint16, error) { return next[uint16](r) }

// U32 takes a number of the width 4.
func (r *Reader) U32() (uint32, error) { return next[uint32](r) }

// U64 takes a number of the width 8.
func (r *Reader) U64() (uint64, error) { return next[uint64](r) }

// Text takes a text of at most so many bytes.
func (r *Reader) Text(most int) (string, error) {
	if r == nil {
		return "", r.fault(api.ErrNil)
	}
	if most < 0 {
		return "", r.fault(api.ErrArg)
	}
	// A copy goes ahead, so that r takes nothing if the text turns out wrong behind its length.
	ahead := *r
	size, err := ahead.U8()
	if err != nil {
		return "", err
	}
	if int(size) > most {
		return "", r.fault(api.ErrLong)
	}
	s, err := ahead.take(int(size))
	if errors.Is(err, api.ErrShort) {
		// The copy tells the place behind the length; the text's place is that of its length.
		return "", r.fault(api.ErrShort)
	}
	*r = ahead
	return s, nil
}

// Place tells how many bytes were taken.
func (r *Reader) Place() int {
	if r == nil {
		return 0
	}
	return r.place
}

// Left tells how many bytes are left.
func (r *Reader) Left() int {
	if r == nil {
		return 0
	}
	return len(r.text) - r.place
}

// End tells whether all was taken.
func (r *Reader) End() error {
	if r == nil {
		return r.fault(api.ErrNil)
	}
	if r.Left() > 0 {
		return r.fault(api.ErrLong)
	}
	return nil
}

// P8 lays a number of the width 1 behind b.
func P8(b []byte, n uint8) []byte { return lay(b, n) }

// P16 lays a number of the width 2 behind b.
func P16(b []byte, n uint16) []byte { return lay(b, n) }

// P32 lays a number of the width 4 behind b.
func P32(b []byte, n uint32) []byte { return lay(b, n) }

// P64 lays a number of the width 8 behind b.
func P64(b []byte, n uint64) []byte { return lay(b, n) }

// PText lays a text behind b, if its length fits a byte.
func PText(b []byte, s string) []byte {
	if len(s) > maxText {
		// Nothing is laid, and the answer must share no room with b all the same.
		return bytes.Clone(b)
	}
	return append(P8(b, uint8(len(s))), s...)
}

// width tells how many bytes a number of the type N has.
func width[N number]() int { return bits.Len64(uint64(^N(0))) / 8 }

// lay puts n's bytes behind b.
func lay[N number](b []byte, n N) []byte {
	// Without room of its own b must be copied by the first byte that comes behind it.
	out := b[:len(b):len(b)]
	for i := width[N]() - 1; i >= 0; i-- {
		out = append(out, byte(n>>(8*i)))
	}
	return out
}

// next takes a number of the width of N.
func next[N number](r *Reader) (N, error) {
	s, err := r.take(width[N]())
	if err != nil {
		return 0, err
	}
	// Gathered in the widest kind, as a number of the width 1 has no room for a shift by 8.
	var n uint64
	for i := range len(s) {
		n = n<<8 | uint64(s[i])
	}
	return N(n), nil
}

// take takes so many bytes, or none, if fewer are left.
func (r *Reader) take(size int) (string, error) {
	if r == nil {
		return "", r.fault(api.ErrNil)
	}
	if r.Left() < size {
		return "", r.fault(api.ErrShort)
	}
	from := r.place
	r.place += size
	return r.text[from:r.place], nil
}

// fault is what is wrong, at the reader's place.
func (r *Reader) fault(e api.Errno) error { return &api.Fault{Code: e, At: r.Place()} }
