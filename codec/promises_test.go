package codec_test

import (
	"bytes"
	"math"
	"math/rand"
	"slices"
	"testing"

	"assent/api"
	"assent/codec"
)

// Kinds of values, as the Writer's and the Reader's calls.
const (
	kByte = iota
	kBool
	kU32
	kU64
	kVar
	kRaw
	kBytes
	kText
	kCount
	kinds
)

// value of one kind: a number, or bytes.
type value struct {
	kind int
	n    uint64
	b    []byte
}

func alike(x, y value) bool { return x.kind == y.kind && x.n == y.n && bytes.Equal(x.b, y.b) }

func lay(w *codec.Writer, v value) {
	switch v.kind {
	case kByte:
		w.Byte(byte(v.n))
	case kBool:
		w.Bool(v.n == 1)
	case kU32:
		w.U32(uint32(v.n))
	case kU64:
		w.U64(v.n)
	case kVar:
		w.Var(v.n)
	case kRaw:
		w.Raw(v.b)
	case kBytes:
		w.Bytes(v.b)
	case kText:
		w.Text(string(v.b))
	case kCount:
		w.Count(int(v.n))
	}
}

func layAll(values []value) []byte {
	w := codec.NewWriter()
	for _, v := range values {
		lay(w, v)
	}
	b, e := w.Out()
	if e != api.OK {
		panic("a plain list of values has no form")
	}
	return b
}

// askFor reads one value of a kind, with these arguments where it has some.
func askFor(r *codec.Reader, kind, most, least int) value {
	asks := [kinds]ask{askByte(), askBool(), askU32(), askU64(), askVar(), askRaw(most), askBytes(most), askText(most), askCount(most, least)}
	n, b := asks[kind].read(r)
	return value{kind, n, b}
}

func anyBytes(r *rand.Rand, most int) []byte {
	b := make([]byte, r.Intn(most+1))
	for k := range b {
		b[k] = []byte{0, 1, 2, 127, 128, 255, byte(r.Intn(256))}[r.Intn(7)]
	}
	return b
}

func anyValue(r *rand.Rand, kind int) value {
	n := r.Uint64() >> r.Intn(64)
	switch kind {
	case kByte:
		return value{kind, n & math.MaxUint8, nil}
	case kBool:
		return value{kind, n & 1, nil}
	case kU32:
		return value{kind, n & math.MaxUint32, nil}
	case kCount:
		return value{kind, n & math.MaxInt, nil}
	case kU64, kVar:
		return value{kind, n, nil}
	}
	most := 6
	if r.Intn(10) == 0 {
		most = 400
	}
	return value{kind, 0, anyBytes(r, most)}
}

func anyValues(r *rand.Rand) []value {
	all := make([]value, r.Intn(12))
	for k := range all {
		all[k] = anyValue(r, r.Intn(kinds))
	}
	return all
}

// room is the least argument with which a value may be read back.
func room(v value) int {
	if v.kind == kCount {
		return int(v.n)
	}
	return len(v.b)
}

// P1.1.
func TestThereAndBack(t *testing.T) {
	rnd := rand.New(rand.NewSource(11))
	for range 20000 {
		values := anyValues(rnd)
		r := codec.NewReader(layAll(values))
		for _, v := range values {
			most := room(v)
			if v.kind != kRaw && rnd.Intn(2) == 0 {
				most = math.MaxInt
			}
			if got := askFor(r, v.kind, most, 0); !alike(got, v) {
				t.Fatalf("P1.1: %v is read as %v, error %d", v, got, r.Err())
			}
		}
		if r.End() != api.OK {
			t.Fatalf("P1.1: End %d behind %v", r.End(), values)
		}
	}
}

// anyArg: mostly small, sometimes one that may not be or is very great.
func anyArg(r *rand.Rand) int {
	if r.Intn(40) == 0 {
		return -1 - r.Intn(3)
	}
	return []int{r.Intn(4), r.Intn(40), math.MaxInt}[r.Intn(3)]
}

// P1.2, P1.4 and P1.5, by any bytes and any reads.
func TestAnyReads(t *testing.T) {
	rnd := rand.New(rand.NewSource(12))
	for range 50000 {
		from := anyBytes(rnd, 40)
		r := codec.NewReader(from)
		var got []value
		for range rnd.Intn(10) {
			kind, most, least := rnd.Intn(kinds), anyArg(rnd), anyArg(rnd)
			left := r.Left()
			v := askFor(r, kind, most, least)
			if r.Err() != api.OK {
				staysRefused(t, r)
				break
			}
			if len(v.b) > left || kind == kCount && least > 0 && v.n > uint64(r.Left()) {
				t.Fatalf("P1.4: %v of %d bytes", v, left)
			}
			got = append(got, v)
			wantBytes(t, "P1.2", layAll(got), from[:r.At()])
		}
		if r.At()+r.Left() != len(from) {
			t.Fatalf("C11: at %d, left %d of %d", r.At(), r.Left(), len(from))
		}
	}
}

// staysRefused: behind an error nothing is read and nothing changes, whatever is asked.
func staysRefused(t *testing.T, r *codec.Reader) {
	t.Helper()
	at, left, err := r.At(), r.Left(), r.Err()
	for _, a := range everyAsk() {
		n, b := a.read(r)
		if n != 0 || len(b) != 0 || r.At() != at || r.Left() != left || r.Err() != err || r.End() != err {
			t.Fatalf("P1.5 %s: %d % x, at %d, left %d, Err %d, End %d; was at %d, left %d, error %d", a.name, n, b, r.At(), r.Left(), r.Err(), r.End(), at, left, err)
		}
	}
}

// P1.5: the first error of each kind stays.
func TestFirstErrorStays(t *testing.T) {
	for want, first := range map[api.Errno]ask{api.ErrArg: askRaw(-1), api.ErrCut: askRaw(99), api.ErrForm: askBool(), api.ErrOver: askBytes(1)} {
		r := codec.NewReader([]byte("\x01\x02\x00\x00\x00\x00\x00\x00\x00\x00\x00"))
		r.Byte()
		first.read(r)
		if r.Err() != want || r.At() != 1 || r.Left() != 10 {
			t.Errorf("P1.5: Err %d, at %d, left %d; want %d", r.Err(), r.At(), r.Left(), want)
		}
		staysRefused(t, r)
	}
}

// P1.3: of two unlike lists of the same kinds (Raws of the same lengths) neither text is a beginning of the other.
func TestTwoForms(t *testing.T) {
	rnd := rand.New(rand.NewSource(13))
	for range 20000 {
		one := anyValues(rnd)
		two := slices.Clone(one)
		for k := range two {
			if rnd.Intn(3) == 0 {
				two[k] = anyValue(rnd, two[k].kind)
			}
			if two[k].kind == kRaw {
				two[k].b = slices.Concat(two[k].b, make([]byte, len(one[k].b)))[:len(one[k].b)]
			}
		}
		if slices.EqualFunc(one, two, alike) {
			continue
		}
		a, b := layAll(one), layAll(two)
		if bytes.HasPrefix(a, b) || bytes.HasPrefix(b, a) {
			t.Fatalf("P1.3: %v and %v: % x and % x", one, two, a, b)
		}
	}
}

// P1.4: a length that is not there takes no room.
func TestNoRoom(t *testing.T) {
	head := "\xff\xff\xff\xff\xff\xff\xff\xff\x7f" // 2^63 - 1
	refuses(t, head+"abc", askBytes(math.MaxInt), api.ErrCut)
	refuses(t, head+"abc", askText(math.MaxInt), api.ErrCut)
	refuses(t, head+"abc", askCount(math.MaxInt, 1), api.ErrCut)
	refuses(t, "abc", askRaw(math.MaxInt), api.ErrCut)
	takes(t, "\x03abc", askCount(math.MaxInt, 1), 3, "", 1)
	refuses(t, "\x04abc", askCount(math.MaxInt, 1), api.ErrCut)
}

// scribble writes into a list and into all the room behind it.
func scribble(b []byte) {
	b = b[:cap(b)]
	for k := range b {
		b[k] = 0xee
	}
}

// roomy is a list with room behind it.
func roomy(b ...byte) []byte { return append(make([]byte, 0, 64), b...) }

// P1.6, G3: a Writer keeps nothing of what it is handed, and hands out nothing that it keeps.
func TestWriterMemory(t *testing.T) {
	w := codec.NewWriter()
	raw, counted := roomy(1, 2), roomy(3)
	w.Raw(raw)
	w.Bytes(counted)
	wantBytes(t, "G3 handed in", raw[:cap(raw)], append([]byte{1, 2}, make([]byte, 62)...))
	wantBytes(t, "G3 handed in", counted[:cap(counted)], append([]byte{3}, make([]byte, 63)...))
	scribble(raw)
	scribble(counted)
	first, _ := w.Out()
	second, _ := w.Out()
	wantBytes(t, "G3", first, []byte{1, 2, 1, 3})
	scribble(first)
	wantBytes(t, "G3 another answer", second, []byte{1, 2, 1, 3})
	w.Byte(4)
	third, _ := w.Out()
	wantBytes(t, "G3 behind a scribble", third, []byte{1, 2, 1, 3, 4})
	wantBytes(t, "G3 an answer stays", second, []byte{1, 2, 1, 3})
	kept := codec.NewWriter()
	kept.Raw(roomy(7))
	out, _ := kept.Out()
	_ = append(out, 8, 8, 8)
	kept.Raw([]byte{9, 9})
	again, _ := kept.Out()
	_ = append(out, 8, 8, 8)
	wantBytes(t, "G3 behind an append", again, []byte{7, 9, 9})
}

// P1.6, G3: a Reader reads the bytes as they were when it was made, and hands out none that it keeps.
func TestReaderMemory(t *testing.T) {
	from := roomy(1, 2, 3, 2, 4, 5, 0, 6)
	r := codec.NewReader(from)
	empty := r.Raw(0)
	raw := r.Raw(3)
	scribble(from)
	_ = append(empty, 0xee, 0xee)
	_ = append(raw, 0xee, 0xee)
	counted := r.Bytes(9)
	none := r.Bytes(9)
	wantBytes(t, "P1.6 Raw", raw, []byte{1, 2, 3})
	wantBytes(t, "P1.6 Bytes", counted, []byte{4, 5})
	scribble(empty)
	scribble(raw)
	scribble(none)
	wantBytes(t, "P1.6 two answers", counted, []byte{4, 5})
	scribble(counted)
	if b := r.Byte(); b != 6 || r.End() != api.OK {
		t.Errorf("P1.6: %d, End %d", b, r.End())
	}
}

// P1.6: a Reader does not write into what it was handed, and one that is made of a text that has room behind it sees nothing of that room.
func TestReaderLeavesBytes(t *testing.T) {
	behind := []byte{2, 'a', 'b', 9, 9}
	r := codec.NewReader(behind[:3])
	if s := r.Text(9); s != "ab" || r.End() != api.OK || r.Byte() != 0 || r.Err() != api.ErrCut {
		t.Errorf("P1.6: %q, error %d", s, r.Err())
	}
	wantBytes(t, "G3", behind, []byte{2, 'a', 'b', 9, 9})
}

// P1.6, G4: two of a kind have nothing in common, be it that they are made of the same bytes.
func TestNothingInCommon(t *testing.T) {
	v, w := codec.NewWriter(), codec.NewWriter()
	v.Byte(1)
	w.Byte(2)
	v.Byte(3)
	w.Count(-1)
	if b, e := v.Out(); e != api.OK || !bytes.Equal(b, []byte{1, 3}) {
		t.Errorf("G4: % x, error %d", b, e)
	}
	if b, e := w.Out(); b != nil || e != api.ErrArg {
		t.Errorf("G4: % x, error %d", b, e)
	}
	from := []byte{5, 6, 7}
	q, r := codec.NewReader(from), codec.NewReader(from)
	scribble(q.Raw(2))
	q.Raw(-1)
	if b := r.Raw(3); !bytes.Equal(b, []byte{5, 6, 7}) || r.End() != api.OK || q.Err() != api.ErrArg || q.At() != 2 {
		t.Errorf("G4: % x, End %d, the other at %d, error %d", b, r.End(), q.At(), q.Err())
	}
}

// P1.6: the same bytes and the same reads give the same answers.
func TestSameAgain(t *testing.T) {
	rnd := rand.New(rand.NewSource(16))
	for range 5000 {
		from := anyBytes(rnd, 30)
		q, r := codec.NewReader(from), codec.NewReader(slices.Clone(from))
		for range 8 {
			kind, most, least := rnd.Intn(kinds), anyArg(rnd), anyArg(rnd)
			x, y := askFor(q, kind, most, least), askFor(r, kind, most, least)
			if !alike(x, y) || q.At() != r.At() || q.Err() != r.Err() {
				t.Fatalf("P1.6: %v and %v of % x", x, y, from)
			}
		}
	}
}
