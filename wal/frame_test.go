package wal_test

import (
	"bytes"
	"encoding/binary"
	"hash/crc32"
	"math"
	"math/rand"
	"slices"
	"strings"
	"testing"

	"assent/api"
	"assent/wal"
)

// slowCheck is the check by the chapter's words, bit by bit.
func slowCheck(b []byte) uint32 {
	register := uint32(math.MaxUint32)
	for _, c := range b {
		register ^= uint32(c)
		for range 8 {
			out := register & 1
			register >>= 1
			if out == 1 {
				register ^= 0xedb88320
			}
		}
	}
	return ^register
}

// head is the first nine bytes of a frame, with a check that is right, whatever they say.
func head(first byte, size uint32) []byte {
	h := binary.LittleEndian.AppendUint32([]byte{first}, size)
	return binary.LittleEndian.AppendUint32(h, slowCheck(h))
}

// byHand is a frame by another hand.
func byHand(rec string) []byte {
	f := append(head(0xa7, uint32(len(rec))), rec...)
	return binary.LittleEndian.AppendUint32(f, slowCheck([]byte(rec)))
}

// scanByHand is Scan by another hand: from the first frame on, and then what is behind it.
func scanByHand(b []byte) ([]string, int) {
	if len(b) < 13 {
		return nil, 0
	}
	size := binary.LittleEndian.Uint32(b[1:])
	if size > 262400 || len(b) < 13+int(size) {
		return nil, 0
	}
	rec := string(b[9 : 9+size])
	if !bytes.HasPrefix(b, byHand(rec)) {
		return nil, 0
	}
	recs, end := scanByHand(b[13+size:])
	return append([]string{rec}, recs...), end + 13 + int(size)
}

func frames(recs ...string) (b []byte) {
	for _, r := range recs {
		b = append(b, byHand(r)...)
	}
	return b
}

func texts(recs [][]byte) (l []string) {
	for _, r := range recs {
		l = append(l, string(r))
	}
	return l
}

func wantScan(t *testing.T, what string, b []byte, end int, recs ...string) {
	t.Helper()
	got, n := wal.Scan(b)
	if n != end || !slices.Equal(texts(got), recs) {
		t.Errorf("%s: Scan tells %.99q, %d, want %.99q, %d", what, got, n, recs, end)
	}
	if len(recs) == 0 && got != nil {
		t.Errorf("%s: Scan tells a list without a record that is not nil", what)
	}
}

func frame(t *testing.T, rec []byte) []byte {
	t.Helper()
	f, e := wal.Frame(rec)
	if e != api.OK {
		t.Fatalf("L2: Frame of %d bytes: error %d", len(rec), e)
	}
	return f
}

func someRecord(r *rand.Rand) string {
	sizes := []int{0, 0, 1, 2, 3, 5, 13, 40}
	b := make([]byte, sizes[r.Intn(len(sizes))])
	r.Read(b)
	return string(b)
}

func someRecords(r *rand.Rand, most int) (l []string) {
	for range r.Intn(most + 1) {
		l = append(l, someRecord(r))
	}
	return l
}

// TestCheck: L1, seen at the end of a frame.
func TestCheck(t *testing.T) {
	for rec, sum := range map[string]uint32{
		"": 0, "123456789": 0xcbf43926, "a": 0xe8b7be43, "\x00": 0xd202ef8d, "\xff": 0xff000000,
		"\xff\xff\xff\xff": 0xffffffff, "\x00\x00\x00\x00": 0x2144df1c, "The quick brown fox jumps over the lazy dog": 0x414fa339,
	} {
		f := frame(t, []byte(rec))
		if got := binary.LittleEndian.Uint32(f[len(f)-4:]); got != sum || slowCheck([]byte(rec)) != sum {
			t.Errorf("L1: the check of %q is %08x, want %08x", rec, got, sum)
		}
	}
	r := rand.New(rand.NewSource(71))
	for k := range 2000 {
		rec := make([]byte, r.Intn(70))
		r.Read(rec)
		if k < 256 {
			rec = []byte{byte(k)}
		}
		f := frame(t, rec)
		if got := binary.LittleEndian.Uint32(f[len(f)-4:]); got != crc32.ChecksumIEEE(rec) {
			t.Fatalf("L1: the check of %x is %08x, want %08x", rec, got, crc32.ChecksumIEEE(rec))
		}
	}
}

// TestUnlikeChecks: L1, of two texts that differ within four bytes side by side alone.
func TestUnlikeChecks(t *testing.T) {
	r := rand.New(rand.NewSource(72))
	for range 3000 {
		one := make([]byte, 1+r.Intn(30))
		r.Read(one)
		two := bytes.Clone(one)
		from := r.Intn(len(one))
		r.Read(two[from:min(from+4, len(two))])
		f, g := frame(t, one), frame(t, two)
		if !bytes.Equal(one, two) && bytes.Equal(f[len(f)-4:], g[len(g)-4:]) {
			t.Fatalf("L1: %x and %x have one check", one, two)
		}
	}
}

func TestFrame(t *testing.T) {
	none := frame(t, nil)
	if want := "\xa7\x00\x00\x00\x00\x9b\xb4\x25\x04\x00\x00\x00\x00"; string(none) != want {
		t.Errorf("L2: the frame of no byte is % x, want % x", none, want)
	}
	if f := frame(t, []byte{}); !bytes.Equal(f, none) {
		t.Errorf("L2: nil and empty have unlike frames: % x", f)
	}
	for _, n := range []int{0, 1, 2, 4, 13, 255, 256, 257, 65535, 65536, api.MaxRecord - 1, api.MaxRecord} {
		rec := strings.Repeat("\xa7x", n)[:n]
		if f := frame(t, []byte(rec)); len(f) != n+13 || !bytes.Equal(f, byHand(rec)) {
			t.Errorf("L2: the frame of %d bytes has %d bytes, or other ones", n, len(f))
		}
	}
	for _, n := range []int{api.MaxRecord + 1, api.MaxRecord + 2, 1 << 20} {
		if f, e := wal.Frame(make([]byte, n)); f != nil || e != api.ErrBig {
			t.Errorf("L2: Frame of %d bytes: %d bytes, error %d", n, len(f), e)
		}
	}
}

// TestFrameExamples: the chapter's first two examples.
func TestFrameExamples(t *testing.T) {
	b := append(frame(t, []byte("a")), frame(t, []byte("bc"))...)
	wantScan(t, "example 2", b, 29, "a", "bc")
	wantScan(t, "example 2", b[:28], 14, "a")
	wantScan(t, "example 2", b[:14], 14, "a")
	wantScan(t, "example 2", b[:13], 0)
	for c := range 256 {
		other := bytes.Clone(b)
		other[14] = byte(c)
		if c != 0xa7 {
			wantScan(t, "example 2: byte 14", other, 14, "a")
		}
		other = bytes.Clone(b)
		other[0] = byte(c)
		if c != 0xa7 {
			wantScan(t, "example 2: byte 0", other, 0)
		}
	}
}

// TestScanStops: L3, each of its reasons by itself, all else being right.
func TestScanStops(t *testing.T) {
	a, good := byHand("a"), byHand("good")
	big := strings.Repeat("b", api.MaxRecord)
	tooBig := append(head(0xa7, api.MaxRecord+1), big+"b"...)
	tooBig = binary.LittleEndian.AppendUint32(tooBig, slowCheck([]byte(big+"b")))
	wrongHead := bytes.Clone(good)
	wrongHead[5] ^= 1
	wrongEnd := bytes.Clone(good)
	wrongEnd[len(wrongEnd)-1] ^= 128
	otherMark := append(head(0xa6, 4), good[9:]...)
	highSize := append(head(0xa7, math.MaxUint32), good[9:]...)
	wrapped := append(head(0xa7, math.MaxUint32-12), good[9:]...)
	for what, b := range map[string][]byte{
		"nothing":                        nil,
		"one byte":                       good[:1],
		"eight bytes":                    good[:8],
		"a head alone":                   good[:9],
		"a head of no byte, and three":   byHand("")[:12],
		"one byte too few":               good[:len(good)-1],
		"without the check":              good[:len(good)-4],
		"no 167":                         otherMark,
		"no 167, and zeros":              make([]byte, 100),
		"the head's check":               wrongHead,
		"the record's check":             wrongEnd,
		"a number above MaxRecord":       tooBig,
		"the greatest number":            highSize,
		"a number that wraps with 13":    wrapped,
		"a record that is one byte less": append(head(0xa7, 3), good[9:]...),
		"a record that is one byte more": append(head(0xa7, 5), append(bytes.Clone(good[9:]), 0)...),
	} {
		wantScan(t, "L3: "+what, b, 0)
		wantScan(t, "L3: behind a frame: "+what, append(bytes.Clone(a), b...), 14, "a")
		if len(b) > 13 {
			wantScan(t, "L3: nothing behind it is looked at: "+what, slices.Concat(a, b, a, a), 14, "a")
		}
	}
	wantScan(t, "L3: a record of MaxRecord bytes", slices.Concat(a, byHand(big), a), 14+api.MaxRecord+13+14, "a", big, "a")
	wantScan(t, "L3: a frame within a record, from its second byte on", byHand(string(byHand("x")))[1:], 0)
	wantScan(t, "L3: a frame within a record", byHand(string(byHand("x"))), 27, string(byHand("x")))
	wantScan(t, "L3: records of no byte", frames("", "", ""), 39, "", "", "")
}

// TestThereAndBack: P7.1.
func TestThereAndBack(t *testing.T) {
	r := rand.New(rand.NewSource(1))
	for range 500 {
		recs, b := someRecords(r, 12), []byte(nil)
		for _, rec := range recs {
			b = append(b, frame(t, []byte(rec))...)
		}
		wantScan(t, "P7.1", b, len(b), recs...)
	}
}

// endsBy are the records whose frames end at a place or ahead of it, and where the last of them ends.
func endsBy(recs []string, place int) ([]string, int) {
	end := 0
	for k, rec := range recs {
		if end+len(rec)+13 > place {
			return recs[:k], end
		}
		end += len(rec) + 13
	}
	return recs, end
}

// TestTornTail: P7.2.
func TestTornTail(t *testing.T) {
	r := rand.New(rand.NewSource(2))
	for range 100 {
		recs := someRecords(r, 6)
		b := frames(recs...)
		for n := range len(b) + 1 {
			whole, end := endsBy(recs, n)
			wantScan(t, "P7.2", b[:n], end, whole...)
		}
		tail := make([]byte, r.Intn(30))
		r.Read(tail)
		if r.Intn(2) == 0 {
			tail = frames(someRecords(r, 3)...)
		}
		got, n := wal.Scan(append(bytes.Clone(b), tail...))
		if n < len(b) || len(got) < len(recs) || !slices.Equal(texts(got[:len(recs)]), recs) {
			t.Fatalf("P7.2: %q with %x behind it: %q, %d", recs, tail, got, n)
		}
	}
}

// TestSpoiltByte: P7.3, each byte changed to many others.
func TestSpoiltByte(t *testing.T) {
	r := rand.New(rand.NewSource(3))
	for range 60 {
		recs := someRecords(r, 5)
		b := frames(recs...)
		for k := range b {
			whole, end := endsBy(recs, k)
			for _, c := range []byte{1, 2, 4, 8, 16, 32, 64, 128, 255, 167, byte(1 + r.Intn(255))} {
				b[k] ^= c
				wantScan(t, "P7.3", b, end, whole...)
				b[k] ^= c
			}
		}
		if t.Failed() {
			return
		}
	}
	b := frames("ab", "", "c")
	for k := range b {
		whole, end := endsBy([]string{"ab", "", "c"}, k)
		for c := range 255 {
			b[k] ^= byte(c + 1)
			wantScan(t, "P7.3", b, end, whole...)
			b[k] ^= byte(c + 1)
		}
	}
}

// TestStandsThere: P7.4, and Scan held against the other hand, at bytes that are mostly frames.
func TestStandsThere(t *testing.T) {
	r := rand.New(rand.NewSource(4))
	for range 5000 {
		b := frames(someRecords(r, 4)...)
		junk := make([]byte, r.Intn(20))
		r.Read(junk)
		b = slices.Concat(b, junk, frames(someRecords(r, 2)...))
		if len(b) > 0 && r.Intn(2) == 0 {
			b[r.Intn(len(b))] = byte(r.Intn(256))
		}
		recs, n := scanByHand(b)
		wantScan(t, "L3", b, n, recs...)
		got, n := wal.Scan(b)
		var again []byte
		for _, rec := range got {
			again = append(again, frame(t, rec)...)
		}
		if n > len(b) || !bytes.Equal(again, b[:n]) {
			t.Fatalf("P7.4: Scan of %x tells %q, %d", b, got, n)
		}
		wantScan(t, "P7.4", b[:n], n, texts(got)...)
		if t.Failed() {
			return
		}
	}
}
