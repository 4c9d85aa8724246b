package codec_test

import (
	"bytes"
	"encoding/binary"
	"math"
	"math/big"
	"testing"

	"assent/api"
	"assent/codec"
)

// ask is one read of any kind: what it answers, a number or bytes.
type ask struct {
	name string
	read func(r *codec.Reader) (uint64, []byte)
}

func flag(v bool) uint64 {
	if v {
		return 1
	}
	return 0
}

func askByte() ask {
	return ask{"Byte", func(r *codec.Reader) (uint64, []byte) { return uint64(r.Byte()), nil }}
}
func askBool() ask {
	return ask{"Bool", func(r *codec.Reader) (uint64, []byte) { return flag(r.Bool()), nil }}
}
func askU32() ask {
	return ask{"U32", func(r *codec.Reader) (uint64, []byte) { return uint64(r.U32()), nil }}
}
func askU64() ask { return ask{"U64", func(r *codec.Reader) (uint64, []byte) { return r.U64(), nil }} }
func askVar() ask { return ask{"Var", func(r *codec.Reader) (uint64, []byte) { return r.Var(), nil }} }
func askRaw(n int) ask {
	return ask{"Raw", func(r *codec.Reader) (uint64, []byte) { return 0, r.Raw(n) }}
}
func askBytes(most int) ask {
	return ask{"Bytes", func(r *codec.Reader) (uint64, []byte) { return 0, r.Bytes(most) }}
}
func askText(most int) ask {
	return ask{"Text", func(r *codec.Reader) (uint64, []byte) { return 0, []byte(r.Text(most)) }}
}
func askCount(most, least int) ask {
	return ask{"Count", func(r *codec.Reader) (uint64, []byte) { return uint64(r.Count(most, least)), nil }}
}

func everyAsk() []ask {
	return []ask{
		askByte(), askBool(), askU32(), askU64(), askVar(),
		askRaw(0), askRaw(1), askRaw(-1), askRaw(math.MinInt), askRaw(math.MaxInt),
		askBytes(0), askBytes(9), askBytes(-1), askBytes(math.MaxInt),
		askText(0), askText(9), askText(-1), askText(math.MaxInt),
		askCount(0, 0), askCount(9, 1), askCount(-1, 0), askCount(0, -1), askCount(math.MaxInt, math.MaxInt), askCount(math.MinInt, math.MinInt),
	}
}

// takes: a read of all that must go well, and where it leaves the Reader.
func takes(t *testing.T, from string, a ask, n uint64, b string, at int) {
	t.Helper()
	r := codec.NewReader([]byte(from))
	gotN, gotB := a.read(r)
	if gotN != n || string(gotB) != b || r.Err() != api.OK || r.At() != at || r.Left() != len(from)-at {
		t.Errorf("%s of % x: %d % x, error %d, at %d, left %d; want %d % x at %d", a.name, from, gotN, gotB, r.Err(), r.At(), r.Left(), n, b, at)
	}
}

// refuses: a read behind one byte, which must fail and go back behind that byte.
func refuses(t *testing.T, from string, a ask, want api.Errno) {
	t.Helper()
	r := codec.NewReader([]byte("\x2a" + from))
	r.Byte()
	n, b := a.read(r)
	if n != 0 || len(b) != 0 || r.Err() != want || r.End() != want || r.At() != 1 || r.Left() != len(from) {
		t.Errorf("%s of % x: %d % x, error %d, at %d, left %d; want error %d", a.name, from, n, b, r.Err(), r.At(), r.Left(), want)
	}
}

// C6, and example 7.
func TestReadFixed(t *testing.T) {
	takes(t, "\x00", askByte(), 0, "", 1)
	takes(t, "\xff\x01", askByte(), 255, "", 1)
	refuses(t, "", askByte(), api.ErrCut)
	takes(t, "\x00\x07", askBool(), 0, "", 1)
	takes(t, "\x01", askBool(), 1, "", 1)
	refuses(t, "", askBool(), api.ErrCut)
	for v := 2; v < 256; v++ {
		refuses(t, string([]byte{byte(v), 1}), askBool(), api.ErrForm)
	}
	takes(t, "\x02\x01\x00\x00\x09", askU32(), 258, "", 4)
	takes(t, "\xef\xcd\xab\x89", askU32(), 0x89abcdef, "", 4)
	takes(t, "\x11\x22\x33\x44\x55\x66\x77\x88\x99", askU64(), 0x8877665544332211, "", 8)
	for k := range 8 {
		if k < 4 {
			refuses(t, "\xff\xff\xff\xff"[:k], askU32(), api.ErrCut)
		}
		refuses(t, "\xff\xff\xff\xff\xff\xff\xff\xff"[:k], askU64(), api.ErrCut)
	}
}

// wantVar says of any bytes what a Var of them is, by the library's form of a number: the bytes begin with one form, or they are the beginning of one, or neither.
func wantVar(b []byte) (n uint64, size int, e api.Errno) {
	n, size = binary.Uvarint(b)
	if size > 0 && bytes.Equal(binary.AppendUvarint(nil, n), b[:size]) {
		return n, size, api.OK
	}
	for _, c := range b {
		if c < 128 {
			return 0, 0, api.ErrForm
		}
	}
	if len(b) < 10 {
		return 0, 0, api.ErrCut
	}
	return 0, 0, api.ErrForm
}

func checkVar(t *testing.T, b []byte) {
	t.Helper()
	if n, size, e := wantVar(b); e == api.OK {
		takes(t, string(b), askVar(), n, "", size)
	} else {
		refuses(t, string(b), askVar(), e)
	}
}

// C7: all texts of up to two bytes; all of up to five of the bytes that matter; and all tenth bytes.
func TestReadVar(t *testing.T) {
	checkVar(t, nil)
	for a := range 256 {
		checkVar(t, []byte{byte(a)})
		for b := range 256 {
			checkVar(t, []byte{byte(a), byte(b)})
		}
	}
	texts := [][]byte{{}}
	for range 5 {
		var longer [][]byte
		for _, b := range texts {
			for _, c := range []byte{0, 1, 2, 127, 128, 129, 255} {
				longer = append(longer, append(bytes.Clone(b), c))
			}
		}
		texts = longer
		for _, b := range texts {
			checkVar(t, b)
		}
	}
	for _, more := range []byte{128, 129, 255} {
		for k := 5; k < 12; k++ {
			long := bytes.Repeat([]byte{more}, k)
			checkVar(t, long)
			for c := range 256 {
				checkVar(t, append(bytes.Clone(long), byte(c)))
				checkVar(t, append(bytes.Clone(long), byte(c), 1))
			}
		}
	}
	for _, n := range edges() {
		checkVar(t, binary.AppendUvarint(nil, n))
	}
}

// Example 4.
func TestVarExamples(t *testing.T) {
	nine := "\x80\x80\x80\x80\x80\x80\x80\x80\x80"
	refuses(t, "\x80\x00", askVar(), api.ErrForm)
	refuses(t, "\x80", askVar(), api.ErrCut)
	refuses(t, nine, askVar(), api.ErrCut)
	refuses(t, nine+"\x00", askVar(), api.ErrForm)
	refuses(t, nine+"\x02", askVar(), api.ErrForm)
	refuses(t, "\xff\xff\xff\xff\xff\xff\xff\xff\xff\xff", askVar(), api.ErrForm)
	takes(t, nine+"\x01", askVar(), 1<<63, "", 10)
	r := codec.NewReader([]byte{0x80, 0})
	if n, b := r.Var(), r.Byte(); n != 0 || b != 0 || r.Err() != api.ErrForm || r.At() != 0 {
		t.Errorf("example 4: %d %d, error %d at %d", n, b, r.Err(), r.At())
	}
}

// C8, and example 7.
func TestReadRaw(t *testing.T) {
	takes(t, "", askRaw(0), 0, "", 0)
	takes(t, "abc", askRaw(0), 0, "", 0)
	takes(t, "abc", askRaw(2), 0, "ab", 2)
	takes(t, "abc", askRaw(3), 0, "abc", 3)
	refuses(t, "abc", askRaw(4), api.ErrCut)
	refuses(t, "", askRaw(1), api.ErrCut)
	refuses(t, "abc", askRaw(math.MaxInt), api.ErrCut)
	for _, from := range []string{"", "abc"} {
		refuses(t, from, askRaw(-1), api.ErrArg)
		refuses(t, from, askRaw(math.MinInt), api.ErrArg)
	}
}

// C9, and example 5.
func TestReadCounted(t *testing.T) {
	for _, kind := range []func(most int) ask{askBytes, askText} {
		takes(t, "\x00", kind(0), 0, "", 1)
		takes(t, "\x00\x01", kind(math.MaxInt), 0, "", 1)
		takes(t, "\x02ab\x07", kind(9), 0, "ab", 3)
		takes(t, "\x02ab\x07", kind(2), 0, "ab", 3)
		takes(t, "\x02\xff\x00", kind(2), 0, "\xff\x00", 3)
		refuses(t, "\x03ab", kind(2), api.ErrOver)
		refuses(t, "\x03abcd", kind(2), api.ErrOver)
		refuses(t, "\x03ab", kind(3), api.ErrCut)
		refuses(t, "\x01", kind(1), api.ErrCut)
		refuses(t, "\x01a", kind(0), api.ErrOver)
		refuses(t, "", kind(9), api.ErrCut)
		refuses(t, "\x80", kind(9), api.ErrCut)
		refuses(t, "\x82\x00ab", kind(9), api.ErrForm)
		refuses(t, "\xff\xff\xff\xff\xff\xff\xff\xff\xff\x02", kind(9), api.ErrForm)
		refuses(t, "\xff\xff\xff\xff\xff\xff\xff\xff\xff\x01", kind(math.MaxInt), api.ErrOver)
		refuses(t, "\xff\xff\xff\xff\xff\xff\xff\xff\x7f", kind(math.MaxInt), api.ErrCut)
		for _, from := range []string{"", "\x80", "\x80\x00", "\x03ab", "\x02ab"} {
			refuses(t, from, kind(-1), api.ErrArg)
			refuses(t, from, kind(math.MinInt), api.ErrArg)
		}
	}
}

// Example 5, the last of it; C11.
func TestEndAndOn(t *testing.T) {
	r := codec.NewReader([]byte("\x02ab\x07"))
	if s := r.Text(9); s != "ab" || r.At() != 3 || r.Left() != 1 {
		t.Errorf("C9: %q at %d, left %d", s, r.At(), r.Left())
	}
	for range 3 {
		if r.End() != api.ErrRest || r.Err() != api.OK || r.At() != 3 || r.Left() != 1 {
			t.Errorf("C11: End %d, Err %d, at %d, left %d", r.End(), r.Err(), r.At(), r.Left())
		}
	}
	if b := r.Byte(); b != 7 || r.End() != api.OK || r.At() != 4 || r.Left() != 0 {
		t.Errorf("C11: %d, End %d, at %d, left %d", b, r.End(), r.At(), r.Left())
	}
	if r.Byte(); r.End() != api.ErrCut || r.Err() != api.ErrCut || r.At() != 4 || r.Left() != 0 {
		t.Errorf("C11: End %d, Err %d, at %d, left %d", r.End(), r.Err(), r.At(), r.Left())
	}
	for _, none := range [][]byte{nil, {}} {
		if r := codec.NewReader(none); r.End() != api.OK || r.Err() != api.OK || r.At() != 0 || r.Left() != 0 {
			t.Errorf("C11 of none: End %d, Err %d, at %d, left %d", r.End(), r.Err(), r.At(), r.Left())
		}
	}
}

// C10, and example 6.
func TestCountExamples(t *testing.T) {
	refuses(t, "\x05\x00\x00", askCount(9, 1), api.ErrCut)
	takes(t, "\x05\x00\x00", askCount(9, 0), 5, "", 1)
	refuses(t, "\x05\x00\x00", askCount(4, 0), api.ErrOver)
	refuses(t, "\x05\x00\x00", askCount(-1, 0), api.ErrArg)
	takes(t, "\x02\x00\x00\x00", askCount(9, 1), 2, "", 1)
	refuses(t, "\x02\x00\x00\x00", askCount(9, 2), api.ErrCut)
	refuses(t, "\x02\x00", askCount(1<<62, 1<<62), api.ErrCut)
	takes(t, "\x00", askCount(0, math.MaxInt), 0, "", 1)
	takes(t, "\x05", askCount(5, 0), 5, "", 1)
	takes(t, "\xff\xff\xff\xff\xff\xff\xff\xff\x7f", askCount(math.MaxInt, 0), math.MaxInt, "", 9)
	refuses(t, "\x80\x80\x80\x80\x80\x80\x80\x80\x80\x01", askCount(math.MaxInt, 0), api.ErrOver)
	for _, from := range []string{"", "\x80", "\x80\x00", "\x05", "\x00"} {
		for _, a := range []ask{askCount(-1, 0), askCount(9, -1), askCount(0, -1), askCount(-1, -1), askCount(math.MinInt, 9), askCount(9, math.MinInt)} {
			refuses(t, from, a, api.ErrArg)
		}
	}
	refuses(t, "", askCount(0, 0), api.ErrCut)
	refuses(t, "\x85", askCount(0, 0), api.ErrCut)
	refuses(t, "\x85\x00", askCount(0, 0), api.ErrForm)
}

// C10: the product is one of whole numbers without a bound.
func TestCountProducts(t *testing.T) {
	numbers := []int{0, 1, 2, 3, 4, 5, 7, 8, 9, 127, 128, 1 << 31, 1 << 32, 1<<32 + 1, 1 << 61, 1 << 62, 1<<62 + 1, math.MaxInt - 1, math.MaxInt}
	for _, n := range numbers {
		for _, least := range numbers {
			for _, most := range []int{n - 1, n, math.MaxInt} {
				for left := range 11 {
					head := binary.AppendUvarint(nil, uint64(n))
					from := string(head) + string(make([]byte, left))
					product := new(big.Int).Mul(big.NewInt(int64(n)), big.NewInt(int64(least)))
					switch {
					case most < 0:
						refuses(t, from, askCount(most, least), api.ErrArg)
					case n > most:
						refuses(t, from, askCount(most, least), api.ErrOver)
					case product.Cmp(big.NewInt(int64(left))) > 0:
						refuses(t, from, askCount(most, least), api.ErrCut)
					default:
						takes(t, from, askCount(most, least), uint64(n), "", len(head))
					}
				}
			}
		}
	}
}

// G1: a nil Reader, and such as NewReader did not make, a copy among them.
func TestReaderNotMade(t *testing.T) {
	copied := func() *codec.Reader {
		r := codec.NewReader([]byte("\x01\x01\x01\x01\x01\x01\x01\x01\x01"))
		r.Byte()
		c := *r
		return &c
	}
	wiped := func() *codec.Reader {
		r := codec.NewReader([]byte("\x01\x01"))
		*r = codec.Reader{}
		return r
	}
	for what, r := range map[string]*codec.Reader{"nil": nil, "zero": {}, "copy": copied(), "wiped": wiped()} {
		for _, a := range everyAsk() {
			n, b := a.read(r)
			if n != 0 || len(b) != 0 || r.At() != 0 || r.Left() != 0 || r.Err() != api.ErrNil || r.End() != api.ErrNil {
				t.Errorf("G1 %s, %s: %d % x, at %d, left %d, Err %d, End %d", what, a.name, n, b, r.At(), r.Left(), r.Err(), r.End())
			}
		}
	}
}
