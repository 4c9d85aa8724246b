package codec_test

import (
	"bytes"
	"encoding/binary"
	"math"
	"slices"
	"strings"
	"testing"

	"assent/api"
	"assent/codec"
)

// laid is what a new Writer gives out behind these calls.
func laid(t *testing.T, calls ...func(w *codec.Writer)) []byte {
	t.Helper()
	w := codec.NewWriter()
	for _, call := range calls {
		call(w)
	}
	b, e := w.Out()
	if e != api.OK {
		t.Fatalf("Out: error %d", e)
	}
	return b
}

func wantBytes(t *testing.T, what string, got, want []byte) {
	t.Helper()
	if !bytes.Equal(got, want) {
		t.Errorf("%s: % x, want % x", what, got, want)
	}
}

// C1, and example 2.
func TestFixedWidths(t *testing.T) {
	for _, c := range []struct {
		what string
		lay  func(w *codec.Writer)
		want []byte
	}{
		{"Byte(0)", func(w *codec.Writer) { w.Byte(0) }, []byte{0}},
		{"Byte(255)", func(w *codec.Writer) { w.Byte(255) }, []byte{255}},
		{"Bool(true)", func(w *codec.Writer) { w.Bool(true) }, []byte{1}},
		{"Bool(false)", func(w *codec.Writer) { w.Bool(false) }, []byte{0}},
		{"U32(0)", func(w *codec.Writer) { w.U32(0) }, make([]byte, 4)},
		{"U32(258)", func(w *codec.Writer) { w.U32(258) }, []byte{2, 1, 0, 0}},
		{"U32(0x89abcdef)", func(w *codec.Writer) { w.U32(0x89abcdef) }, []byte{0xef, 0xcd, 0xab, 0x89}},
		{"U32 greatest", func(w *codec.Writer) { w.U32(math.MaxUint32) }, []byte{255, 255, 255, 255}},
		{"U64(0)", func(w *codec.Writer) { w.U64(0) }, make([]byte, 8)},
		{"U64(258)", func(w *codec.Writer) { w.U64(258) }, []byte{2, 1, 0, 0, 0, 0, 0, 0}},
		{"U64 all unlike", func(w *codec.Writer) { w.U64(0x8877665544332211) }, []byte{0x11, 0x22, 0x33, 0x44, 0x55, 0x66, 0x77, 0x88}},
		{"U64 greatest", func(w *codec.Writer) { w.U64(math.MaxUint64) }, bytes.Repeat([]byte{255}, 8)},
	} {
		wantBytes(t, "C1 "+c.what, laid(t, c.lay), c.want)
	}
}

// edges are the numbers around every length of a Var, and the least and greatest.
func edges() []uint64 {
	all := []uint64{0, 1, 2, 300, math.MaxUint64, math.MaxUint64 - 1}
	for k := 1; k < 64; k++ {
		p := uint64(1) << k
		all = append(all, p-1, p, p+1)
	}
	slices.Sort(all)
	return slices.Compact(all)
}

// C2, and example 1. The library's form of a number is this one.
func TestVarForm(t *testing.T) {
	for n, want := range map[uint64]string{
		0: "\x00", 127: "\x7f", 128: "\x80\x01", 300: "\xac\x02",
		math.MaxUint64: strings.Repeat("\xff", 9) + "\x01",
		1 << 63:        strings.Repeat("\x80", 9) + "\x01",
	} {
		wantBytes(t, "C2", laid(t, func(w *codec.Writer) { w.Var(n) }), []byte(want))
	}
	for _, n := range edges() {
		b := laid(t, func(w *codec.Writer) { w.Var(n) })
		wantBytes(t, "C2", b, binary.AppendUvarint(nil, n))
		if n > 0 && b[len(b)-1] == 0 || len(b) == 10 && b[9] != 1 {
			t.Errorf("C2: %d ends in %d", n, b[len(b)-1])
		}
	}
}

// C3, and example 2.
func TestSequences(t *testing.T) {
	long := bytes.Repeat([]byte{0xc3}, 300) // no UTF-8
	for _, c := range []struct {
		what string
		lay  func(w *codec.Writer)
		want []byte
	}{
		{"Raw of nil", func(w *codec.Writer) { w.Raw(nil) }, nil},
		{"Raw of none", func(w *codec.Writer) { w.Raw([]byte{}) }, nil},
		{"Raw", func(w *codec.Writer) { w.Raw([]byte{0, 255, 1}) }, []byte{0, 255, 1}},
		{"Bytes of nil", func(w *codec.Writer) { w.Bytes(nil) }, []byte{0}},
		{"Bytes of none", func(w *codec.Writer) { w.Bytes([]byte{}) }, []byte{0}},
		{"Bytes", func(w *codec.Writer) { w.Bytes([]byte{0, 255}) }, []byte{2, 0, 255}},
		{"Bytes of 300", func(w *codec.Writer) { w.Bytes(long) }, append([]byte{0xac, 2}, long...)},
		{"Text of none", func(w *codec.Writer) { w.Text("") }, []byte{0}},
		{"Text", func(w *codec.Writer) { w.Text("ab") }, []byte{2, 'a', 'b'}},
		{"Text of any bytes", func(w *codec.Writer) { w.Text("\x00\xff\x80") }, []byte{3, 0, 255, 128}},
		{"Text of runes", func(w *codec.Writer) { w.Text("é") }, []byte{2, 0xc3, 0xa9}},
		{"Text of 300", func(w *codec.Writer) { w.Text(string(long)) }, append([]byte{0xac, 2}, long...)},
	} {
		wantBytes(t, "C3 "+c.what, laid(t, c.lay), c.want)
	}
}

// C4, and examples 2 and 3.
func TestWriterCount(t *testing.T) {
	for _, n := range []int{0, 3, 127, 128, 65536, math.MaxInt} {
		wantBytes(t, "C4", laid(t, func(w *codec.Writer) { w.Count(n) }), binary.AppendUvarint(nil, uint64(n)))
	}
	for _, n := range []int{-1, -128, math.MinInt} {
		w := codec.NewWriter()
		w.Byte(5)
		w.Count(n)
		for _, call := range writerCalls() {
			call(w)
			if b, e := w.Out(); b != nil || e != api.ErrArg {
				t.Errorf("C4 Count(%d): % x, error %d", n, b, e)
			}
		}
	}
}

// C5.
func TestOutAgain(t *testing.T) {
	w := codec.NewWriter()
	if b, e := w.Out(); len(b) != 0 || e != api.OK {
		t.Errorf("C5: a new one: % x, error %d", b, e)
	}
	var want []byte
	for k := range 1000 {
		w.Var(uint64(k))
		want = binary.AppendUvarint(want, uint64(k))
		for range 2 {
			if b, e := w.Out(); e != api.OK || !bytes.Equal(b, want) {
				t.Fatalf("C5 behind %d: % x, error %d, want % x", k, b, e, want)
			}
		}
	}
}

func writerCalls() []func(w *codec.Writer) {
	return []func(w *codec.Writer){
		func(w *codec.Writer) { w.Byte(6) },
		func(w *codec.Writer) { w.Bool(true) },
		func(w *codec.Writer) { w.U32(7) },
		func(w *codec.Writer) { w.U64(8) },
		func(w *codec.Writer) { w.Var(300) },
		func(w *codec.Writer) { w.Raw([]byte{9}) },
		func(w *codec.Writer) { w.Raw(nil) },
		func(w *codec.Writer) { w.Bytes([]byte{9}) },
		func(w *codec.Writer) { w.Bytes(nil) },
		func(w *codec.Writer) { w.Text("ab") },
		func(w *codec.Writer) { w.Count(3) },
		func(w *codec.Writer) { w.Count(-3) },
	}
}

// G1: a nil Writer, and such as NewWriter did not make, a copy among them.
func TestWriterNotMade(t *testing.T) {
	copied := func() *codec.Writer {
		w := codec.NewWriter()
		w.Byte(1)
		c := *w
		return &c
	}
	wiped := func() *codec.Writer {
		w := codec.NewWriter()
		*w = codec.Writer{}
		return w
	}
	for what, w := range map[string]*codec.Writer{"nil": nil, "zero": {}, "copy": copied(), "wiped": wiped()} {
		for _, call := range writerCalls() {
			call(w)
			if b, e := w.Out(); b != nil || e != api.ErrNil {
				t.Errorf("G1 %s: % x, error %d", what, b, e)
			}
		}
	}
}

// G4: what a copy is asked for is not seen by its original.
func TestWriterCopyApart(t *testing.T) {
	w := codec.NewWriter()
	w.Raw([]byte{1, 2, 3})
	c := *w
	w.Byte(4)
	c.Byte(5)
	c.Count(-1)
	b, e := w.Out()
	if e != api.OK {
		t.Errorf("G4: error %d", e)
	}
	wantBytes(t, "G4", b, []byte{1, 2, 3, 4})
}
