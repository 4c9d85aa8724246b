package wal_test

import (
	"math/rand"
	"slices"
	"strconv"
	"testing"

	"assent/api"
	"assent/disk"
	"assent/wal"
)

// story is what is known of a log from its calls alone: the records whose Append answered OK, the one whose Append was refused behind them, and how many Count told synced last.
type story struct {
	said    []string
	refused []string
	safe    int
}

// append and sync hand a call on to the log, and note what it answered.
func (s *story) append(l *wal.Log, rec string) api.Errno {
	e := l.Append([]byte(rec))
	switch e {
	case api.OK:
		s.said = append(s.said, rec)
	case api.ErrFull, api.ErrFault, api.ErrOff:
		s.refused = []string{rec}
	}
	_, s.safe = l.Count()
	return e
}

func (s *story) sync(l *wal.Log) api.Errno {
	e := l.Sync()
	_, s.safe = l.Count()
	return e
}

// opened: what an Open tells must be as P7.5 says; it is what is there from then on.
func (s *story) opened(t *testing.T, what string, l *wal.Log, recs []string) {
	t.Helper()
	beginning := len(recs) <= len(s.said) && slices.Equal(recs, s.said[:len(recs)])
	if !beginning && !slices.Equal(recs, slices.Concat(s.said, s.refused)) || len(recs) < s.safe {
		t.Fatalf("P7.5: %s: Open tells %q of %q, refused %q, %d synced", what, recs, s.said, s.refused, s.safe)
	}
	s.said, s.refused = slices.Clone(recs), nil
	records, synced := l.Count()
	if records != len(recs) || synced < s.safe || synced > records {
		t.Fatalf("L4: %s: Count is %d, %d of %d records, %d were synced", what, records, synced, len(recs), s.safe)
	}
	s.safe = synced
}

// reopen opens till it is not refused, and then again: the same, and nothing changes any more.
func (s *story) reopen(t *testing.T, what string, d *disk.Disk) *wal.Log {
	t.Helper()
	l, recs, e := wal.Open(d, "log")
	for e != api.OK {
		if l != nil || recs != nil || e != api.ErrFault && e != api.ErrOff {
			t.Fatalf("L4: %s: Open tells %v, %q, error %d", what, l, recs, e)
		}
		if e == api.ErrOff {
			return nil
		}
		l, recs, e = wal.Open(d, "log")
	}
	s.opened(t, what, l, texts(recs))
	calls := d.Calls()
	was, _ := d.Read("log")
	for range 2 {
		_, again, e := wal.Open(d, "log")
		b, _ := d.Read("log")
		if e != api.OK || !slices.Equal(texts(again), s.said) || d.Calls() != calls || string(b) != string(was) {
			t.Fatalf("P7.5: %s: opened again: %q, error %d, %d calls more, want %q", what, again, e, d.Calls()-calls, s.said)
		}
	}
	return l
}

// mounted is what a crash leaves.
func mounted(t *testing.T, d *disk.Disk, keep []int, junk byte) *disk.Disk {
	t.Helper()
	im, e := d.Crash(keep, junk)
	if e != api.OK {
		t.Fatalf("Crash: error %d", e)
	}
	d, e = disk.Mount(im, limit)
	if e != api.OK {
		t.Fatalf("Mount: error %d", e)
	}
	return d
}

// TestEveryCrash: P7.5: one short life, cut by each trouble at each call and by each number of bytes that are kept.
func TestEveryCrash(t *testing.T) {
	for at := range 8 {
		for _, tr := range []api.Trouble{{Kind: api.TrFault}, {Kind: api.TrPower}, {Kind: api.TrPower, Done: true}} {
			for keep := range 60 {
				for _, junk := range []byte{0, 1, 0xa7} {
					tr.At = at + 1
					what := "trouble " + strconv.Itoa(tr.Kind) + " at " + strconv.Itoa(tr.At) + ", kept " + strconv.Itoa(keep)
					d, s := newDisk(t), &story{}
					l := s.reopen(t, what, d)
					all(t, what, d.Arm(tr))
					shortLife(s, l)
					d = mounted(t, d, []int{keep}, junk)
					s.reopen(t, what, d)
				}
			}
		}
	}
}

func shortLife(s *story, l *wal.Log) {
	s.append(l, "a")
	s.append(l, "")
	s.sync(l)
	s.append(l, "bcd")
	s.sync(l)
	s.append(l, "e")
	s.append(l, "fg")
}

// TestLives: P7.5 and P7.6 by chance, over many lives of one file beside another.
func TestLives(t *testing.T) {
	r := rand.New(rand.NewSource(75))
	for range 300 {
		d, s := newDisk(t), &story{}
		for range 5 {
			d.Append("a", []byte("beside"))
			live(t, r, d, s)
			d = mounted(t, d, []int{r.Intn(9), r.Intn(90) - 9}, byte(r.Intn(3)))
		}
		s.reopen(t, "at the end", d)
	}
}

func live(t *testing.T, r *rand.Rand, d *disk.Disk, s *story) {
	t.Helper()
	l := s.reopen(t, "behind a crash", d)
	dead := false
	for range r.Intn(25) {
		if r.Intn(6) == 0 {
			d.Arm(api.Trouble{At: 1 + r.Intn(5), Kind: api.TrFault + r.Intn(2)})
		}
		if r.Intn(12) == 0 {
			d.Arm(api.Trouble{At: 1 + r.Intn(5), Kind: api.TrPower, Done: true})
		}
		if dead && r.Intn(2) == 0 || r.Intn(9) == 0 {
			if l = s.reopen(t, "on the same disk", d); l == nil {
				return
			}
			dead = false
		}
		calls, e := d.Calls(), api.OK
		if r.Intn(3) == 0 {
			e = s.sync(l)
		} else {
			e = s.append(l, someRecord(r))
		}
		if dead != (e == api.ErrDead) || dead && d.Calls() != calls {
			t.Fatalf("P7.6: dead is %v, error %d, %d calls", dead, e, d.Calls()-calls)
		}
		dead = e != api.OK
	}
}
