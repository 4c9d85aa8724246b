package wal_test

import (
	"math/rand"
	"reflect"
	"slices"
	"testing"

	"assent/api"
	"assent/disk"
	"assent/wal"
)

// spoil writes over bytes and over the room behind them.
func spoil(b []byte) {
	b = b[:cap(b)]
	for k := range b {
		b[k] = '!'
	}
}

// roomy is the bytes with room behind them, in which something stands.
func roomy(s string) []byte { return append([]byte(s), "room"...)[:len(s)] }

func wantUntouched(t *testing.T, what string, b []byte, s string) {
	t.Helper()
	if got := string(b[:len(s)+4]); got != s+"room" {
		t.Errorf("G3: %s has changed what it was handed: %q", what, got)
	}
}

// TestHandedIn: G3, P7.7: what is handed in is neither changed nor kept.
func TestHandedIn(t *testing.T) {
	rec := roomy("abc")
	f := frame(t, rec)
	wantUntouched(t, "Frame", rec, "abc")
	spoil(rec)
	if string(f) != string(byHand("abc")) {
		t.Errorf("G3: a frame has changed with its record: %x", f)
	}
	two := frame(t, []byte("abc"))
	spoil(f)
	if string(two) != string(byHand("abc")) {
		t.Errorf("G3: two frames are one: %x", two)
	}
	d := newDisk(t)
	l := open(t, "L4", d)
	for _, s := range []string{"abc", "", "de"} {
		rec := roomy(s)
		all(t, "L5", l.Append(rec))
		wantUntouched(t, "Append", rec, s)
		spoil(rec)
	}
	all(t, "L6", l.Sync())
	wantFile(t, "P7.7: what was handed in", d, frames("abc", "", "de"), 44)
}

// TestScanned: G3: Scan leaves its bytes, looks at none in the room behind them, and answers lists that share nothing.
func TestScanned(t *testing.T) {
	whole := frames("abc", "", "de", "fgh")
	b := roomy(string(whole))
	wantScan(t, "G3", b[:44], 44, "abc", "", "de")
	wantScan(t, "G3: a frame of which a byte is behind the list", b[:59], 44, "abc", "", "de")
	recs, _ := wal.Scan(b)
	again, _ := wal.Scan(b)
	wantUntouched(t, "Scan", b, string(whole))
	spoil(b)
	for k, rec := range []string{"abc", "", "de", "fgh"} {
		if string(recs[k]) != rec {
			t.Errorf("G3: the record %d has changed: %q", k, recs[k])
		}
		spoil(recs[k])
		recs[k] = append(recs[k], "???????????????????"...)
	}
	_ = append(recs[:1], []byte("other"))
	if !slices.Equal(texts(again), []string{"abc", "", "de", "fgh"}) {
		t.Errorf("G3: two answers of Scan are one: %q", again)
	}
}

// TestHandedOut: G3, P7.7: what is written into the records that Open told is never seen again.
func TestHandedOut(t *testing.T) {
	b := frames("abc", "", "de")
	d := holding(t, b, 20)
	l, recs, _ := wal.Open(d, "log")
	_, again, _ := wal.Open(d, "log")
	for _, rec := range recs {
		spoil(rec)
		_ = append(rec, "???????????????????"...)
	}
	recs[1] = []byte("other")
	_ = append(recs, []byte("other"))
	if !slices.Equal(texts(again), []string{"abc", "", "de"}) {
		t.Errorf("G3: two answers of Open are one: %q", again)
	}
	all(t, "P7.7", l.Append([]byte("f")), l.Sync())
	wantFile(t, "P7.7: what was handed out", d, append(b, byHand("f")...), 58)
	open(t, "P7.7", d, "abc", "", "de", "f")
}

// TestNothingInCommon: P7.7, G4: two logs on two files, and on two disks.
func TestNothingInCommon(t *testing.T) {
	d, other := newDisk(t), newDisk(t)
	l := open(t, "L4", d)
	beside, _, _ := wal.Open(d, "beside")
	far := open(t, "L4", other)
	all(t, "P7.7", l.Append([]byte("a")), beside.Append([]byte("b")), far.Append([]byte("c")), l.Sync())
	wantCount(t, "P7.7: on this file", l, 1, 1)
	wantCount(t, "P7.7: on another file", beside, 1, 0)
	wantCount(t, "P7.7: on another disk", far, 1, 0)
	if l.Name() != "log" || beside.Name() != "beside" || far.Name() != "log" {
		t.Errorf("L7: the names are %q, %q, %q", l.Name(), beside.Name(), far.Name())
	}
	arm(t, d, api.TrFault, false)
	want(t, "P7.7", l.Append([]byte("d")), api.ErrFault)
	wantDead(t, "P7.7", d, l, 1, 1)
	all(t, "P7.7: the others are alive", beside.Append([]byte("e")), far.Append([]byte("f")), beside.Sync(), far.Sync())
	wantFile(t, "P7.7", d, frames("a"), 14)
	wantFile(t, "P7.7", other, frames("c", "f"), 28)
	if _, recs, e := wal.Open(d, "beside"); !slices.Equal(texts(recs), []string{"b", "e"}) || e != api.OK {
		t.Errorf("P7.7: beside holds %q, error %d", recs, e)
	}
}

// copyOf is another thing with the same fields.
func copyOf[T any](was *T) *T {
	c := reflect.New(reflect.TypeFor[T]())
	c.Elem().Set(reflect.ValueOf(was).Elem())
	return c.Interface().(*T)
}

// TestNotMade: G1, L7: a nil log, one that Open did not make, and a copy of one.
func TestNotMade(t *testing.T) {
	d := newDisk(t)
	l := open(t, "L4", d)
	all(t, "L5", l.Append([]byte("a")))
	for what, x := range map[string]*wal.Log{"nil": nil, "zero": {}, "new": new(wal.Log), "a copy": copyOf(l)} {
		for range 2 {
			want(t, "G1: Append, "+what, x.Append([]byte("b")), api.ErrNil)
			want(t, "G1: Append of none, "+what, x.Append(nil), api.ErrNil)
			want(t, "G1: Append of too much, "+what, x.Append(make([]byte, api.MaxRecord+1)), api.ErrNil)
			want(t, "G1: Sync, "+what, x.Sync(), api.ErrNil)
		}
		wantCount(t, "G1: "+what, x, 0, 0)
		if x.Name() != "" {
			t.Errorf("G1: the name of a log that is %s is %q", what, x.Name())
		}
	}
	wantFile(t, "G1: a copy changes nothing", d, frames("a"), 0)
	wantClosed(t, "G1: a copy of a disk", copyOf(d), "log", api.ErrNil)
	wantClosed(t, "G1: a copy of a disk", copyOf(d), "a b", api.ErrNil)
	arm(t, d, api.TrFault, false)
	want(t, "L5", l.Append(nil), api.ErrFault)
	want(t, "G1: a copy of the dead", copyOf(l).Append(nil), api.ErrNil)
	want(t, "G1: a copy of the dead", copyOf(l).Sync(), api.ErrNil)
}

// TestNothingPanics: G1, at bytes by chance, and at frames whose heads are right and say anything.
func TestNothingPanics(t *testing.T) {
	r := rand.New(rand.NewSource(8))
	for range 3000 {
		b := make([]byte, r.Intn(40))
		r.Read(b)
		if r.Intn(2) == 0 {
			b = append(head(byte(0xa6+r.Intn(2)), r.Uint32()>>r.Intn(32)), b...)
		}
		recs, n := scanByHand(b)
		wantScan(t, "G1", b, n, recs...)
		d := holding(t, b, r.Intn(len(b)+1))
		l := open(t, "G1", d, recs...)
		all(t, "G1", l.Append(nil), l.Sync())
		wantCount(t, "G1", l, len(recs)+1, len(recs)+1)
	}
	gone := newDisk(t)
	l := open(t, "L4", gone)
	all(t, "L5", l.Append([]byte("a")))
	*gone = disk.Disk{}
	want(t, "G1: the disk is written over", l.Sync(), api.ErrNil)
	want(t, "G1: so the log is dead", l.Append(nil), api.ErrDead)
}

// TestAgainTheSame: G4: the same calls are answered the same.
func TestAgainTheSame(t *testing.T) {
	play := func() (answers []api.Errno, recs []string) {
		r, d := rand.New(rand.NewSource(9)), newDisk(t)
		l := open(t, "L4", d)
		for range 40 {
			if r.Intn(9) == 0 {
				d.Arm(api.Trouble{At: 1 + r.Intn(3), Kind: api.TrFault})
			}
			if r.Intn(4) == 0 {
				answers = append(answers, l.Sync())
			} else {
				answers = append(answers, l.Append([]byte(someRecord(r))))
			}
			if answers[len(answers)-1] == api.ErrDead {
				l, _, _ = wal.Open(d, "log")
			}
		}
		d = mounted(t, d, []int{7}, 1)
		_, told, e := wal.Open(d, "log")
		return append(answers, e), texts(told)
	}
	answers, recs := play()
	for range 20 {
		if a, l := play(); !slices.Equal(a, answers) || !slices.Equal(l, recs) {
			t.Fatalf("G4: the same calls: %v and %q, then %v and %q", answers, recs, a, l)
		}
	}
}
