package codec

import (
	"bytes"

	"assent/api"
)

// Writer lays values down one behind the other. It is made by NewWriter.
type Writer struct {
	self *Writer // itself, if NewWriter made it: a copy would share the room behind laid with its original
	laid []byte
	err  api.Errno
}

// NewWriter has nothing yet.
func NewWriter() *Writer {
	w := &Writer{}
	w.self = w
	return w
}

// Byte lays down a byte.
func (w *Writer) Byte(v byte) { w.fixed(uint64(v), 1) }

// Bool lays down a byte 0 or 1.
func (w *Writer) Bool(v bool) {
	if v {
		w.Byte(1)
	} else {
		w.Byte(0)
	}
}

// U32 lays down four bytes, the lowest first.
func (w *Writer) U32(v uint32) { w.fixed(uint64(v), 4) }

// U64 lays down eight bytes, the lowest first.
func (w *Writer) U64(v uint64) { w.fixed(v, 8) }

// Var lays down a number in as few bytes as it needs.
func (w *Writer) Var(v uint64) {
	if w.fault() != api.OK {
		return
	}
	for v > groupMask {
		w.laid = append(w.laid, byte(v&groupMask|moreFlag))
		v >>= groupBits
	}
	w.laid = append(w.laid, byte(v))
}

// Raw lays down bytes without their number.
func (w *Writer) Raw(b []byte) { layAll(w, b) }

// Bytes lays down the number of the bytes, and them.
func (w *Writer) Bytes(b []byte) { layCounted(w, b) }

// Text is Bytes of a text.
func (w *Writer) Text(s string) { layCounted(w, s) }

// Count lays down the number of a list's elements; below 0 it is a fault, behind which nothing is laid down.
func (w *Writer) Count(n int) {
	if w.fault() != api.OK {
		return
	}
	if n < 0 {
		w.err = api.ErrArg
		return
	}
	w.Var(uint64(n))
}

// Out is all that was laid down, or the fault. The Writer goes on as before.
func (w *Writer) Out() ([]byte, api.Errno) {
	if e := w.fault(); e != api.OK {
		return nil, e
	}
	return bytes.Clone(w.laid), api.OK
}

// fault is why nothing may be laid down, or OK.
func (w *Writer) fault() api.Errno {
	if w == nil || w.self != w {
		return api.ErrNil
	}
	return w.err
}

// fixed lays down the lowest bytes of a number, the very lowest first.
func (w *Writer) fixed(v uint64, width int) {
	if w.fault() != api.OK {
		return
	}
	for k := range width {
		w.laid = append(w.laid, byte(v>>(8*k)))
	}
}

func layCounted[T sequence](w *Writer, s T) {
	w.Var(uint64(len(s)))
	layAll(w, s)
}

func layAll[T sequence](w *Writer, s T) {
	if w.fault() == api.OK {
		w.laid = append(w.laid, s...)
	}
}
