package archive_test

import (
	"iter"
	"math"
	"reflect"
	"slices"
	"testing"

	"assent/api"
)

// TestFrom: what Load tells, from a height on.
func TestFrom(t *testing.T) {
	w := grown(t, 4)
	for from, want := range map[uint64][]uint64{
		0: {1, 2, 3, 4}, 1: {1, 2, 3, 4}, 2: {2, 3, 4}, 4: {4}, 5: nil, api.MaxHeight: nil, math.MaxUint64: nil,
	} {
		seq := w.a.From(from)
		for range 2 { // ranged over again it begins anew
			k := 0
			for b, c := range seq {
				x, y := block(want[k], 0)
				if !reflect.DeepEqual(b, x) || !reflect.DeepEqual(c, y) {
					t.Errorf("A7: From(%d): %v, %v", from, b, c)
				}
				k++
			}
			if k != len(want) {
				t.Errorf("A7: From(%d): %d blocks, want %d", from, k, len(want))
			}
		}
	}
	if w.d.Calls() != 4 {
		t.Errorf("A7: it has written")
	}
}

// TestFromEnds: a loop that ends early, at each place.
func TestFromEnds(t *testing.T) {
	w := grown(t, 4)
	seq := w.a.From(2)
	for n := 1; n <= 3; n++ {
		var got []uint64
		for b := range seq {
			got = append(got, b.Header.Height)
			if len(got) == n {
				break
			}
		}
		if !slices.Equal(got, []uint64{2, 3, 4}[:n]) {
			t.Errorf("A7: %v", got)
		}
	}
	asked := 0
	seq(func(api.Block, api.Cert) bool {
		asked++
		return false
	})
	if asked != 1 {
		t.Errorf("A7: asked %d times behind the end", asked)
	}
	next, stop := iter.Pull2(seq)
	b, _, ok := next()
	stop()
	if _, _, more := next(); !ok || more || b.Header.Height != 2 {
		t.Errorf("A7: pulled: %d", b.Header.Height)
	}
}

// TestFromReadsLate: each block is read when it is asked for, up to the head of that moment.
func TestFromReadsLate(t *testing.T) {
	w := grown(t, 1)
	early := w.a.From(1)
	beyond := w.a.From(3)
	var got []uint64
	for b := range early {
		got = append(got, b.Header.Height)
		if h := b.Header.Height; h < 5 {
			w.save("A5: within the loop", h+1, api.OK)
		}
	}
	if !slices.Equal(got, []uint64{1, 2, 3, 4, 5}) {
		t.Errorf("A7: %v", got)
	}
	got = nil
	for b := range beyond {
		got = append(got, b.Header.Height)
	}
	if !slices.Equal(got, []uint64{3, 4, 5}) {
		t.Errorf("A7: %v", got)
	}
	good, _ := w.d.Read(blockFile(3))
	w.put(blockFile(3), nil)
	if got := heights(w.a, 1); !slices.Equal(got, []uint64{1, 2}) {
		t.Errorf("A7: it goes on behind what is spoilt: %v", got)
	}
	if got := heights(w.a, 4); !slices.Equal(got, []uint64{4, 5}) {
		t.Errorf("A7: %v", got)
	}
	got = nil
	for b := range early {
		got = append(got, b.Header.Height)
		if b.Header.Height == 2 {
			w.put(blockFile(3), good)
		}
		if b.Header.Height == 4 {
			w.put(blockFile(5), nil)
		}
	}
	if !slices.Equal(got, []uint64{1, 2, 3, 4}) {
		t.Errorf("A7: %v", got)
	}
	got = nil
	for b := range early {
		got = append(got, b.Header.Height)
		if b.Header.Height == 2 {
			w.d.Crash(nil, 0)
		}
	}
	if !slices.Equal(got, []uint64{1, 2}) {
		t.Errorf("A7: off: %v", got)
	}
}

// TestFromNested: two loops over one iterator do not disturb each other.
func TestFromNested(t *testing.T) {
	w := grown(t, 3)
	seq := w.a.From(0)
	n := 0
	for b := range seq {
		for c := range seq {
			n++
			if b.Header.Height == c.Header.Height {
				break
			}
		}
	}
	if n != 1+2+3 {
		t.Errorf("A7: %d", n)
	}
}

// TestFromDead: a dead archive gives as before.
func TestFromDead(t *testing.T) {
	w := grown(t, 2)
	w.arm(1, api.TrFault, false)
	w.save("A5", 3, api.ErrFault)
	if got := heights(w.a, 1); !slices.Equal(got, []uint64{1, 2}) {
		t.Errorf("A7: dead: %v", got)
	}
}
