package wal_test

import (
	"slices"
	"strconv"
	"strings"
	"testing"

	"assent/api"
	"assent/disk"
	"assent/wal"
)

const limit = 1 << 20

func newDisk(t *testing.T) *disk.Disk {
	t.Helper()
	d, e := disk.New(limit)
	if e != api.OK {
		t.Fatalf("a disk: error %d", e)
	}
	return d
}

// holding is a disk whose file log has these bytes: of them so many are synced, from the first on.
func holding(t *testing.T, b []byte, synced int) *disk.Disk {
	t.Helper()
	d := newDisk(t)
	d.Append("log", b[:synced])
	d.Sync("log")
	d.Append("log", b[synced:])
	if n, s, _ := d.Size("log"); n != len(b) || s != synced {
		t.Fatalf("a disk: %d bytes, %d synced", n, s)
	}
	return d
}

func open(t *testing.T, what string, d *disk.Disk, recs ...string) *wal.Log {
	t.Helper()
	l, got, e := wal.Open(d, "log")
	if l == nil || e != api.OK || !slices.Equal(texts(got), recs) {
		t.Fatalf("%s: Open tells %v, %q, error %d, want %q", what, l, got, e, recs)
	}
	if len(recs) == 0 && got != nil {
		t.Errorf("%s: Open tells a list without a record that is not nil", what)
	}
	return l
}

func wantClosed(t *testing.T, what string, d *disk.Disk, name string, e api.Errno) {
	t.Helper()
	if l, recs, got := wal.Open(d, name); l != nil || recs != nil || got != e {
		t.Errorf("%s: Open(%q) tells %v, %q, error %d, want error %d", what, name, l, recs, got, e)
	}
}

func want(t *testing.T, what string, got, e api.Errno) {
	t.Helper()
	if got != e {
		t.Errorf("%s: error %d, want %d", what, got, e)
	}
}

// all is the OK of each of the calls.
func all(t *testing.T, what string, es ...api.Errno) {
	t.Helper()
	for k, e := range es {
		want(t, what+", call "+strconv.Itoa(k+1), e, api.OK)
	}
}

func wantCount(t *testing.T, what string, l *wal.Log, records, synced int) {
	t.Helper()
	if n, s := l.Count(); n != records || s != synced {
		t.Errorf("%s: Count is %d, %d, want %d, %d", what, n, s, records, synced)
	}
}

func wantCalls(t *testing.T, what string, d *disk.Disk, calls int) {
	t.Helper()
	if got := d.Calls(); got != calls {
		t.Errorf("%s: %d calls of the disk, want %d", what, got, calls)
	}
}

func wantFile(t *testing.T, what string, d *disk.Disk, b []byte, synced int) {
	t.Helper()
	got, e := d.Read("log")
	_, s, _ := d.Size("log")
	if e != api.OK || string(got) != string(b) || s != synced {
		t.Errorf("%s: the file holds %x, %d synced, error %d, want %x, %d synced", what, got, s, e, b, synced)
	}
}

// wantDead: the log does nothing any more, and tells what it told.
func wantDead(t *testing.T, what string, d *disk.Disk, l *wal.Log, records, synced int) {
	t.Helper()
	calls := d.Calls()
	for range 2 {
		want(t, what+": Append of the dead", l.Append([]byte("x")), api.ErrDead)
		want(t, what+": Append of too much", l.Append(make([]byte, api.MaxRecord+1)), api.ErrDead)
		want(t, what+": Sync of the dead", l.Sync(), api.ErrDead)
	}
	wantCalls(t, what+": the dead call no disk", d, calls)
	wantCount(t, what+": of the dead", l, records, synced)
	if l.Name() != "log" {
		t.Errorf("%s: L7: the dead log's name is %q", what, l.Name())
	}
}

func arm(t *testing.T, d *disk.Disk, kind int, done bool) {
	t.Helper()
	all(t, "Arm", d.Arm(api.Trouble{At: 1, Kind: kind, Done: done}))
}

// TestLogExample: the chapter's third example.
func TestLogExample(t *testing.T) {
	d := newDisk(t)
	l, recs, e := wal.Open(d, "wal-0")
	if l == nil || recs != nil || e != api.OK || len(d.Names()) != 0 || l.Name() != "wal-0" {
		t.Fatalf("L4: Open tells %v, %q, error %d, and there are %q", l, recs, e, d.Names())
	}
	wantCount(t, "L7", l, 0, 0)
	all(t, "L6: nothing to sync", l.Sync())
	wantCalls(t, "L4, L6: nothing to do", d, 0)
	if len(d.Names()) != 0 {
		t.Errorf("L6: a file is made: %q", d.Names())
	}
	all(t, "L5", l.Append([]byte("a")))
	wantCount(t, "L5", l, 1, 0)
	all(t, "L6", l.Sync())
	wantCount(t, "L6", l, 1, 1)
	wantCalls(t, "L5, L6: a call each", d, 2)
	all(t, "L6: again", l.Sync())
	wantCalls(t, "L6: all are synced", d, 2)
	if b, _ := d.Read("wal-0"); string(b) != string(byHand("a")) {
		t.Errorf("L5: the file holds %x", b)
	}
}

func TestOpenRefused(t *testing.T) {
	d := newDisk(t)
	for _, name := range []string{"a b", "", "A", strings.Repeat("a", 33)} {
		wantClosed(t, "L4, example 4", d, name, api.ErrName)
		wantClosed(t, "G1: of a nil disk", nil, name, api.ErrNil)
		wantClosed(t, "G1: of a disk that is not made", new(disk.Disk), name, api.ErrNil)
	}
	wantClosed(t, "example 4", nil, "log", api.ErrNil)
	wantCalls(t, "L4", d, 0)
	d.Crash(nil, 0)
	wantClosed(t, "L4: off", d, "log", api.ErrOff)
	wantClosed(t, "L4: off comes ahead of the name", d, "a b", api.ErrOff)
}

// TestOpenWhole: L4, of a file without anything behind its frames: no call changes the disk.
func TestOpenWhole(t *testing.T) {
	for synced, count := range map[int]int{0: 0, 13: 0, 14: 1, 15: 1, 26: 1, 27: 2, 28: 2, 41: 2, 42: 3} {
		b := frames("a", "", "bc")
		d := holding(t, b, synced)
		calls := d.Calls()
		l := open(t, "L4", d, "a", "", "bc")
		wantCount(t, "L4: "+strconv.Itoa(synced)+" bytes synced", l, 3, count)
		wantCalls(t, "L4: nothing to cut", d, calls)
		wantFile(t, "L4", d, b, synced)
		all(t, "L6", l.Sync())
		wantCount(t, "L6", l, 3, 3)
		if count == 3 {
			wantCalls(t, "L6: all were synced", d, calls)
		} else {
			wantCalls(t, "L6", d, calls+1)
		}
		wantFile(t, "L6", d, b, 42)
	}
	d := holding(t, nil, 0)
	calls := d.Calls()
	wantCount(t, "L4: a file of no bytes", open(t, "L4", d), 0, 0)
	wantCalls(t, "L4: a file of no bytes", d, calls)
}

// TestOpenCuts: L4, example 5: what is behind the last whole frame goes, and then all is synced.
func TestOpenCuts(t *testing.T) {
	b := frames("a", "bc")
	for _, behind := range []string{"xyz", "\xa7", "\xa7\x00\x00", "\x00", string(byHand("d")[:13]), string(byHand("d")[1:]), "z" + string(byHand("d"))} {
		for synced := range len(b) + len(behind) + 1 {
			d := holding(t, append(frames("a", "bc"), behind...), synced)
			calls := d.Calls()
			l := open(t, "example 5", d, "a", "bc")
			wantCount(t, "example 5", l, 2, 2)
			wantCalls(t, "L4: one Cut", d, calls+1)
			wantFile(t, "L4", d, b, 29)
			all(t, "L6: all are synced", l.Sync())
			wantCalls(t, "L6: all are synced", d, calls+1)
			all(t, "L5: behind the cut", l.Append([]byte("e")))
			wantFile(t, "L5: behind the cut", d, frames("a", "bc", "e"), 29)
			wantCount(t, "L5", l, 3, 2)
		}
	}
	d := holding(t, []byte("junk"), 2)
	wantCount(t, "L4: nothing whole", open(t, "L4", d), 0, 0)
	wantFile(t, "L4: the file stays", d, nil, 0)
}

// TestOpenCutRefused: L4: the Cut's error is the answer, with no log; a new Open goes on.
func TestOpenCutRefused(t *testing.T) {
	b := append(frames("a", "bc"), "xyz"...)
	d := holding(t, b, 20)
	arm(t, d, api.TrFault, false)
	wantClosed(t, "L4: a fault", d, "log", api.ErrFault)
	wantFile(t, "L4: a fault", d, b, 20)
	wantCount(t, "L4", open(t, "L4: again", d, "a", "bc"), 2, 2)
	for _, done := range []bool{false, true} {
		d := holding(t, b, 20)
		arm(t, d, api.TrPower, done)
		wantClosed(t, "L4: the power", d, "log", api.ErrOff)
		wantClosed(t, "L4: off", d, "log", api.ErrOff)
		recs, left := []string{"a"}, 20
		if done {
			recs, left = []string{"a", "bc"}, 29
		}
		im, _ := d.Crash(nil, 0)
		if len(im.Files[0].Bytes) != left {
			t.Errorf("L4: the power goes with a Cut, done %v: %d bytes are left", done, len(im.Files[0].Bytes))
		}
		d, _ = disk.Mount(im, limit)
		open(t, "L4", d, recs...)
	}
}

func TestAppend(t *testing.T) {
	d := newDisk(t)
	l := open(t, "L4", d)
	recs := []string{"", "a", "bc", "\xa7", string(byHand("x")), "", strings.Repeat("z", 300)}
	for k, rec := range recs {
		all(t, "L5", l.Append([]byte(rec)))
		wantCount(t, "L5", l, k+1, k/3*3)
		wantFile(t, "L5", d, frames(recs[:k+1]...), len(frames(recs[:k/3*3]...)))
		if k%3 == 2 {
			all(t, "L6", l.Sync())
			wantCount(t, "L6", l, k+1, k+1)
		}
	}
	wantCalls(t, "L5, L6: one call each", d, len(recs)+2)
	wantCount(t, "L4", open(t, "L4", d, recs...), 7, 6)
}

// TestAppendBig: L5: a record above MaxRecord is refused, ahead of the disk, and the log stays alive.
func TestAppendBig(t *testing.T) {
	d := newDisk(t)
	l := open(t, "L4", d)
	big := make([]byte, api.MaxRecord+1)
	want(t, "L5: too big", l.Append(big), api.ErrBig)
	wantCount(t, "L5: too big", l, 0, 0)
	if len(d.Names()) != 0 || d.Calls() != 0 {
		t.Errorf("L5: too big: there are %q, behind %d calls", d.Names(), d.Calls())
	}
	all(t, "L5: alive", l.Append([]byte("a")), l.Append(big[1:]), l.Sync())
	wantCount(t, "L5: alive", l, 2, 2)
	want(t, "L5: too big", l.Append(big), api.ErrBig)
	arm(t, d, api.TrFault, false)
	want(t, "L5: too big comes ahead of the disk", l.Append(big), api.ErrBig)
	want(t, "L5: the fault has waited", l.Append([]byte("b")), api.ErrFault)
	wantDead(t, "L5", d, l, 2, 2)

	l = open(t, "L4", d, "a", string(big[1:]))
	d.Crash(nil, 0)
	want(t, "L5: too big comes ahead of ErrOff", l.Append(big), api.ErrBig)
	want(t, "L5: off", l.Append([]byte("a")), api.ErrOff)
	wantDead(t, "L5: off", d, l, 2, 2)
}

// TestDeadByAppend: L5, P7.6, example 6: each refusal of an Append kills; a new Open goes on.
func TestDeadByAppend(t *testing.T) {
	d := newDisk(t)
	l := open(t, "L4", d)
	all(t, "L5", l.Append([]byte("a")), l.Sync(), l.Append([]byte("bc")))
	arm(t, d, api.TrFault, false)
	want(t, "example 6", l.Append([]byte("d")), api.ErrFault)
	wantDead(t, "P7.6: ErrFault", d, l, 2, 1)
	other := open(t, "P7.6", d, "a", "bc")
	wantCount(t, "P7.6", other, 2, 1)
	all(t, "P7.6: the new one goes on", other.Append([]byte("e")), other.Sync())
	wantDead(t, "P7.6: the old one stays dead", d, l, 2, 1)
	wantCount(t, "P7.6", other, 3, 3)

	small, _ := disk.New(30)
	l = open(t, "L4", small)
	all(t, "L5", l.Append([]byte("a")))
	want(t, "L5: no room", l.Append([]byte("bcde")), api.ErrFull)
	wantDead(t, "P7.6: ErrFull", small, l, 1, 0)
	l = open(t, "P7.6", small, "a")
	all(t, "P7.6: room for less", l.Append([]byte("bcd")), l.Sync())
	wantCount(t, "P7.6", l, 2, 2)

	for _, done := range []bool{false, true} {
		d := newDisk(t)
		l := open(t, "L4", d)
		all(t, "L5", l.Append([]byte("a")), l.Sync())
		arm(t, d, api.TrPower, done)
		want(t, "L5: the power", l.Append([]byte("b")), api.ErrOff)
		wantDead(t, "P7.6: ErrOff", d, l, 1, 1)
		im, _ := d.Crash([]int{99}, 0)
		d, _ = disk.Mount(im, limit)
		recs := []string{"a"}
		if done {
			recs = append(recs, "b")
		}
		wantCount(t, "P7.5", open(t, "P7.5", d, recs...), len(recs), len(recs))
	}
}

// TestDeadBySync: L6, P7.6.
func TestDeadBySync(t *testing.T) {
	d := newDisk(t)
	l := open(t, "L4", d)
	all(t, "L5", l.Append([]byte("a")), l.Sync(), l.Append([]byte("b")))
	arm(t, d, api.TrFault, false)
	want(t, "L6", l.Sync(), api.ErrFault)
	wantDead(t, "P7.6: ErrFault", d, l, 2, 1)
	wantFile(t, "L6: a fault does nothing", d, frames("a", "b"), 14)
	l = open(t, "P7.6", d, "a", "b")
	wantCount(t, "P7.6", l, 2, 1)
	all(t, "P7.6: the new one goes on", l.Sync(), l.Append([]byte("c")))
	d.Crash(nil, 0)
	want(t, "L6: off", l.Sync(), api.ErrOff)
	wantDead(t, "P7.6: ErrOff", d, l, 3, 2)
	for _, done := range []bool{false, true} {
		d := newDisk(t)
		l := open(t, "L4", d)
		all(t, "L5", l.Append([]byte("a")))
		arm(t, d, api.TrPower, done)
		want(t, "L6: the power", l.Sync(), api.ErrOff)
		wantDead(t, "P7.6: ErrOff", d, l, 1, 0)
	}
}

// TestSyncOfNothing: L6: where all is synced the disk is not called, be it off.
func TestSyncOfNothing(t *testing.T) {
	d := newDisk(t)
	l := open(t, "L4", d)
	all(t, "L5", l.Append([]byte("a")), l.Sync())
	arm(t, d, api.TrFault, false)
	all(t, "L6: the fault waits", l.Sync())
	want(t, "L6: it has waited", d.Sync("log"), api.ErrFault)
	d.Crash(nil, 0)
	all(t, "L6: off, and not called", l.Sync())
	wantCount(t, "L6", l, 1, 1)
	want(t, "L6: the log was alive", l.Append(nil), api.ErrOff)
}

// TestOthersWrite: others write the file meanwhile: the calls do what is said, with the file as it is.
func TestOthersWrite(t *testing.T) {
	d := newDisk(t)
	l := open(t, "L4", d)
	all(t, "removed by others", l.Append([]byte("a")), d.Remove("log"))
	want(t, "L6: there is no file", l.Sync(), api.ErrNoFile)
	wantDead(t, "L6: ErrNoFile", d, l, 1, 0)
	l = open(t, "L4", d)
	all(t, "L5: the file is made anew", l.Append([]byte("a")), d.Remove("log"), l.Append([]byte("b")), l.Sync())
	wantCount(t, "L5", l, 2, 2)
	wantFile(t, "L5", d, frames("b"), 14)
	all(t, "L5: behind what others wrote", d.Append("log", []byte("?")), l.Append([]byte("c")))
	wantFile(t, "L5", d, append(frames("b"), "?"+string(frames("c"))...), 14)
	wantCount(t, "L4", open(t, "L4", d, "b"), 1, 1)
	wantCount(t, "L7: as it was", l, 3, 2)
}
