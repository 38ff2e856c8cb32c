// Package bits reads and writes bits (layer 1, doc/01-bits.md).
package bits

import (
	"slices"

	"spindle/api"
)

// maxBits is how many bits a number has at most.
const maxBits = 64

// Reader reads the bits of a string, the highest one of each byte first.
type Reader struct {
	s   string
	pos int // how many bits were read
}

// Writer collects bits.
type Writer struct {
	whole []byte // the bytes of which all bits were written
	part  byte   // the bits after them, from the highest one on, and then zeros
	n     int    // how many bits of part were written, from 0 to 7
}

// Read returns a reader at the first bit of a string.
func Read(s string) *Reader {
	return &Reader{s: s}
}

// Bit reads a bit.
func (r *Reader) Bit() (uint8, api.Errno) {
	v, e := r.U(1)
	return uint8(v), e
}

// U reads a number of n bits.
func (r *Reader) U(n int) (uint64, api.Errno) {
	if r == nil {
		return 0, api.ErrNil
	}
	if n < 0 || n > maxBits {
		return 0, api.ErrRange
	}
	if n > r.Left() {
		return 0, api.ErrShort
	}
	v := uint64(0)
	for n > 0 {
		k := min(n, 8-r.pos%8)
		v = v<<k | uint64(r.next(k))
		n -= k
	}
	return v, api.OK
}

// next reads k bits, which are there, and all in one byte.
func (r *Reader) next(k int) byte {
	b := r.s[r.pos/8] << (r.pos % 8) >> (8 - k)
	r.pos += k
	return b
}

// Pos returns how many bits were read.
func (r *Reader) Pos() int {
	if r == nil {
		return 0
	}
	return r.pos
}

// Left returns how many bits are left.
func (r *Reader) Left() int {
	if r == nil {
		return 0
	}
	return 8*len(r.s) - r.pos
}

// Copy returns an independent reader at the same place.
func (r *Reader) Copy() *Reader {
	if r == nil {
		return nil
	}
	return &Reader{s: r.s, pos: r.pos}
}

// Write returns a writer without bits.
func Write() *Writer {
	return &Writer{}
}

// Put writes a number with n bits.
func (w *Writer) Put(n int, v uint64) api.Errno {
	if w == nil {
		return api.ErrNil
	}
	if n < 0 || n > maxBits {
		return api.ErrRange
	}
	if v>>n != 0 {
		return api.ErrArg
	}
	// One byte more than a number has, because the bits of part come first.
	var a [maxBits/8 + 1]byte
	v <<= maxBits - n
	a[0] = w.part | byte(v>>(maxBits-8+w.n))
	v <<= 8 - w.n
	k := (w.n + n) / 8
	for i := 1; i <= k; i++ {
		a[i] = byte(v >> (maxBits - 8))
		v <<= 8
	}
	w.add(a[:k])
	w.part, w.n = a[k], (w.n+n)%8
	return api.OK
}

// add appends bytes that are whole.
func (w *Writer) add(p []byte) {
	at := len(w.whole)
	w.whole = slices.Grow(w.whole, len(p))[:at+len(p)]
	copy(w.whole[at:], p)
}

// Len returns how many bits were written.
func (w *Writer) Len() int {
	if w == nil {
		return 0
	}
	return 8*len(w.whole) + w.n
}

// Bytes returns the bits as bytes, with zeros at the end.
func (w *Writer) Bytes() string {
	if w == nil {
		return ""
	}
	if w.n == 0 {
		return string(w.whole)
	}
	return string(w.whole) + string([]byte{w.part})
}

// Bits returns the bits as a string of 0 and 1.
func (w *Writer) Bits() string {
	s := w.Bytes()
	text := make([]byte, w.Len())
	for i := range text {
		text[i] = '0' + s[i/8]>>(7-i%8)&1
	}
	return string(text)
}
