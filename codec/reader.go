package codec

import (
	"bytes"
	"math/bits"

	"assent/api"
)

// Reader reads what a Writer has laid down. It is made by NewReader.
type Reader struct {
	self *Reader // itself, if NewReader made it
	from []byte
	at   int
	err  api.Errno
}

// NewReader stands ahead of the first byte.
func NewReader(b []byte) *Reader {
	r := &Reader{from: bytes.Clone(b)}
	r.self = r
	return r
}

// Byte reads a byte.
func (r *Reader) Byte() byte {
	return byte(r.read(func() (uint64, api.Errno) { return r.fixed(1) }))
}

// Bool reads a byte 0 or 1.
func (r *Reader) Bool() bool {
	return 1 == r.read(func() (uint64, api.Errno) {
		v, e := r.fixed(1)
		if v > 1 {
			return 0, api.ErrForm
		}
		return v, e
	})
}

// U32 reads four bytes.
func (r *Reader) U32() uint32 {
	return uint32(r.read(func() (uint64, api.Errno) { return r.fixed(4) }))
}

// U64 reads eight bytes.
func (r *Reader) U64() uint64 {
	return r.read(func() (uint64, api.Errno) { return r.fixed(8) })
}

// Var reads a number.
func (r *Reader) Var() uint64 {
	return r.read(func() (uint64, api.Errno) { return r.number() })
}

// Raw reads so many bytes.
func (r *Reader) Raw(n int) []byte {
	return passed[[]byte](r, func() (uint64, api.Errno) {
		if n < 0 {
			return 0, api.ErrArg
		}
		return r.pass(uint64(n))
	})
}

// Bytes reads bytes with their number, at most so many.
func (r *Reader) Bytes(most int) []byte { return counted[[]byte](r, most) }

// Text is Bytes as a text.
func (r *Reader) Text(most int) string { return counted[string](r, most) }

// Count reads a list's number, at most so many, of elements of at least so many bytes each.
func (r *Reader) Count(most, least int) int {
	return int(r.read(func() (uint64, api.Errno) {
		if least < 0 {
			return 0, api.ErrArg
		}
		n, e := r.head(most)
		if e != api.OK {
			return 0, e
		}
		// The product may need more than 64 bits: then it is above whatever is left.
		over, need := bits.Mul64(n, uint64(least))
		if over > 0 || need > r.left() {
			return 0, api.ErrCut
		}
		return n, api.OK
	}))
}

// At is how many bytes were read.
func (r *Reader) At() int {
	if !r.made() {
		return 0
	}
	return r.at
}

// Left is how many are left.
func (r *Reader) Left() int {
	if !r.made() {
		return 0
	}
	return len(r.from) - r.at
}

// Err is the first error, or OK.
func (r *Reader) Err() api.Errno {
	if !r.made() {
		return api.ErrNil
	}
	return r.err
}

// End is the first error, or ErrRest if bytes are left.
func (r *Reader) End() api.Errno {
	if e := r.Err(); e != api.OK {
		return e
	}
	if r.Left() > 0 {
		return api.ErrRest
	}
	return api.OK
}

func (r *Reader) made() bool { return r != nil && r.self == r }

// read lets one read go, unless an error stands. On a fault it goes back to where that read began, keeps the fault and answers 0.
func (r *Reader) read(one func() (uint64, api.Errno)) uint64 {
	if r.Err() != api.OK {
		return 0
	}
	begin := r.at
	v, e := one()
	if e != api.OK {
		r.at, r.err = begin, e
		return 0
	}
	return v
}

// What follows is called within read alone: there the Reader is made and has no error, and a fault need not put the place back.

func (r *Reader) left() uint64 { return uint64(len(r.from) - r.at) }

// pass goes on by so many bytes, and answers how many.
func (r *Reader) pass(n uint64) (uint64, api.Errno) {
	if n > r.left() {
		return 0, api.ErrCut
	}
	r.at += int(n)
	return n, api.OK
}

// fixed reads a number of that many bytes, the lowest first.
func (r *Reader) fixed(width int) (uint64, api.Errno) {
	begin := r.at
	if _, e := r.pass(uint64(width)); e != api.OK {
		return 0, e
	}
	var v uint64
	for k := range width {
		v |= uint64(r.from[begin+k]) << (8 * k)
	}
	return v, api.OK
}

// number reads a Var.
func (r *Reader) number() (uint64, api.Errno) {
	begin := r.at
	size, e := varSize(r.from[begin:])
	if e != api.OK {
		return 0, e
	}
	var v uint64
	for k := range size {
		v |= uint64(r.from[begin+k]&groupMask) << (groupBits * k)
	}
	r.at += size
	return v, api.OK
}

// head reads a Var that may be so great at the most.
func (r *Reader) head(most int) (uint64, api.Errno) {
	if most < 0 {
		return 0, api.ErrArg
	}
	n, e := r.number()
	if e == api.OK && n > uint64(most) {
		return 0, api.ErrOver
	}
	return n, e
}

// varSize is how many bytes the Var at the front has.
func varSize(b []byte) (int, api.Errno) {
	k := 0
groups:
	for {
		switch {
		case k == len(b):
			return 0, api.ErrCut
		case k == maxGroups-1 && b[k] > lastMost:
			return 0, api.ErrForm
		case k > 0 && b[k] == 0: // a shorter form of the same number ends ahead of it
			return 0, api.ErrForm
		case b[k] < moreFlag:
			break groups
		}
		k++
	}
	return k + 1, api.OK
}

func counted[T sequence](r *Reader, most int) T {
	return passed[T](r, func() (uint64, api.Errno) {
		n, e := r.head(most)
		if e != api.OK {
			return 0, e
		}
		return r.pass(n)
	})
}

// passed answers, as new memory, the bytes that one read has passed last; one tells how many these are.
func passed[T sequence](r *Reader, one func() (uint64, api.Errno)) T {
	n := int(r.read(one))
	if n == 0 {
		var none T
		return none
	}
	return T(bytes.Clone(r.from[r.at-n : r.at]))
}
