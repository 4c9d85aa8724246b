package archive_test

import (
	"math"
	"testing"

	"assent/api"
	"assent/disk"
	"assent/wire"
)

// TestSaveRefused: blocks and certificates that are not plain, with wire's error; and certificates of other blocks.
func TestSaveRefused(t *testing.T) {
	w := grown(t, 3)
	for what, c := range map[string]struct {
		height uint64
		bend   func(b *api.Block, c *api.Cert)
		want   api.Errno
	}{
		"no chain":                        {4, func(b *api.Block, c *api.Cert) { b.Header.Chain = "" }, api.ErrField},
		"height 0":                        {4, func(b *api.Block, c *api.Cert) { b.Header.Height = 0 }, api.ErrField},
		"a height above":                  {4, func(b *api.Block, c *api.Cert) { b.Header.Height = api.MaxHeight + 1 }, api.ErrField},
		"the greatest number":             {4, func(b *api.Block, c *api.Cert) { b.Header.Height = math.MaxUint64 }, api.ErrField},
		"too many transactions":           {4, func(b *api.Block, c *api.Cert) { b.Txs = make([]api.Tx, api.MaxTxs+1) }, api.ErrBig},
		"a transaction of no kind":        {4, func(b *api.Block, c *api.Cert) { b.Txs[0].Kind = 9 }, api.ErrKind},
		"evidence turned about":           {4, func(b *api.Block, c *api.Cert) { v := &b.Evidence[0]; v.A, v.B = v.B, v.A }, api.ErrOrder},
		"too much evidence":               {4, func(b *api.Block, c *api.Cert) { b.Evidence = make([]api.Evidence, api.MaxEvidence+1) }, api.ErrBig},
		"marks out of order":              {4, func(b *api.Block, c *api.Cert) { c.Marks[1].Index = 1 }, api.ErrOrder},
		"too many marks":                  {4, func(b *api.Block, c *api.Cert) { c.Marks = make([]api.Mark, api.MaxSeats+1) }, api.ErrBig},
		"the zero certificate":            {4, func(b *api.Block, c *api.Cert) { *c = api.Cert{} }, api.ErrField},
		"a certificate of no block":       {4, func(b *api.Block, c *api.Cert) { c.Id = api.Hash{} }, api.ErrField},
		"a certificate of another id":     {4, func(b *api.Block, c *api.Cert) { c.Id[0]++ }, api.ErrCert},
		"a certificate of a lower height": {4, func(b *api.Block, c *api.Cert) { c.Height-- }, api.ErrCert},
		"a certificate of a later height": {4, func(b *api.Block, c *api.Cert) { c.Height++ }, api.ErrCert},
		"another header":                  {4, func(b *api.Block, c *api.Cert) { b.Header.Time++ }, api.ErrCert},
		"and it is there":                 {3, func(b *api.Block, c *api.Cert) { c.Id[0]++ }, api.ErrCert},
		"of another, and it is there":     {3, func(b *api.Block, c *api.Cert) { b.Header.Time++ }, api.ErrCert},
		"not plain, and it is there":      {3, func(b *api.Block, c *api.Cert) { b.Txs[0].Kind = 9 }, api.ErrKind},
		"not plain, and of another":       {4, func(b *api.Block, c *api.Cert) { b.Txs[0].Kind = 9; c.Id[0]++ }, api.ErrKind},
		"not plain, behind a gap":         {6, func(b *api.Block, c *api.Cert) { b.Txs[0].Kind = 9 }, api.ErrKind},
		"of another, behind a gap":        {6, func(b *api.Block, c *api.Cert) { c.Id[0]++ }, api.ErrCert},
		"a gap":                           {5, func(b *api.Block, c *api.Cert) {}, api.ErrGap},
		"a great gap":                     {3, func(b *api.Block, c *api.Cert) { b.Header.Height = api.MaxHeight; *c = certOf(*b, 0) }, api.ErrGap},
		"another block":                   {3, func(b *api.Block, c *api.Cert) { b.Header.Time++; *c = certOf(*b, 0) }, api.ErrClash},
		"another block of height 1":       {1, func(b *api.Block, c *api.Cert) { b.Header.Time++; *c = certOf(*b, 0) }, api.ErrClash},
		"the same block":                  {3, func(b *api.Block, c *api.Cert) {}, api.OK},
		"the same block, another round":   {2, func(b *api.Block, c *api.Cert) { *c = certOf(*b, 5) }, api.OK},
		"the same id with less below":     {1, func(b *api.Block, c *api.Cert) { b.Txs = nil }, api.OK},
		"no marks":                        {2, func(b *api.Block, c *api.Cert) { c.Marks = nil }, api.OK},
	} {
		b, cert := block(c.height, 0)
		c.bend(&b, &cert)
		if c.want != api.ErrCert && c.want != api.ErrGap && c.want != api.ErrClash {
			if _, e := wire.EncodeMsg(decision(b, cert)); e != c.want {
				t.Errorf("%s: wire says %d", what, e)
			}
		}
		w.is("A5: "+what, w.a.Save(b, cert), c.want)
		w.at("A5: "+what, 3, 3)
		for h := uint64(1); h <= 3; h++ {
			w.loads("P13.1: "+what, h)
		}
	}
	w.save("A5: it is alive", 4, api.OK)
	w.at("A5", 4, 4)
}

// TestLoadRefused: nothing stands at 0 and above the head.
func TestLoadRefused(t *testing.T) {
	w := newWorld(t)
	for _, h := range []uint64{0, 1, 2, math.MaxUint64} {
		w.loadRefused("A6", h, api.ErrNone)
	}
	w = grown(t, 2)
	w.put(blockFile(3), must(w.d.Read(blockFile(2)))) // whatever others write there
	for _, h := range []uint64{0, 3, 4, api.MaxHeight, math.MaxUint64} {
		w.loadRefused("A6", h, api.ErrNone)
	}
	w.loads("A6", 1)
	w.loads("A6", 2)
	w.d.Crash(nil, 0)
	w.loadRefused("A6: off", 0, api.ErrNone)
	w.loadRefused("A6: off", 3, api.ErrNone)
	w.loadRefused("A6: off", 2, api.ErrOff)
}

// TestBigBlock: a block at all limits goes there and back.
func TestBigBlock(t *testing.T) {
	b, _ := block(1, 0)
	b.Txs, b.Evidence = nil, nil
	for k := range uint64(api.MaxTxs) {
		b.Txs = append(b.Txs, api.Tx{Kind: api.TxPay, From: math.MaxUint64, To: math.MaxUint64 - api.Addr(k), Amount: api.MaxSupply, Fee: api.MaxSupply, Nonce: math.MaxUint64, Seal: api.Seal{255}})
	}
	for k := range api.MaxEvidence {
		v := api.Vote{Kind: api.Precommit, Height: api.MaxHeight, Round: api.MaxRound, Id: api.Hash{1, byte(k)}, Time: api.MaxTime, From: math.MaxUint64}
		u := v
		u.Id[0] = 2
		b.Evidence = append(b.Evidence, api.Evidence{A: v, B: u})
	}
	c := certOf(b, api.MaxRound)
	c.Marks = nil
	for k := range api.MaxSeats {
		c.Marks = append(c.Marks, api.Mark{Index: k, Time: api.MaxTime, Seal: api.Seal{byte(k)}})
	}
	w := newWorld(t)
	w.is("A5: a block at all limits", w.a.Save(b, c), api.OK)
	w.loadsThat("P13.1", b, c)
	w.again(1)
	w.loadsThat("P13.2", b, c)
}

// TestRefusedByDisk: each refusal of a Save and of a Note is told, kills, and leaves what was told before.
func TestRefusedByDisk(t *testing.T) {
	for what, c := range map[string]struct {
		trouble func(w *world)
		want    api.Errno
		on      bool
		later   bool // what was refused has been done
	}{
		"a fault":             {func(w *world) { w.arm(1, api.TrFault, false) }, api.ErrFault, true, false},
		"power, done":         {func(w *world) { w.arm(1, api.TrPower, true) }, api.ErrOff, false, true},
		"power, not done":     {func(w *world) { w.arm(1, api.TrPower, false) }, api.ErrOff, false, false},
		"off":                 {func(w *world) { w.arm(1, api.TrPower, false); w.d.Append("x", nil) }, api.ErrOff, false, false},
		"full":                {func(w *world) { w.d.Append("x", make([]byte, limit-w.used())) }, api.ErrFull, true, false},
		"full but for a byte": {func(w *world) { w.d.Append("x", make([]byte, limit-w.used()-1)) }, api.ErrFull, true, false},
	} {
		for _, note := range []bool{false, true} {
			w := grown(t, 2)
			w.is("A8", w.a.Note(state(2, 0)), api.OK)
			c.trouble(w)
			change := func() api.Errno {
				if note { // a longer one, so that a full disk refuses it
					st := state(2, 1)
					st.Ledger.Releases = append(st.Ledger.Releases, api.Release{Height: 30, Addr: 1})
					return w.a.Note(st)
				}
				b, cert := block(3, 0)
				return w.a.Save(b, cert)
			}
			w.is("A5, A8: "+what, change(), c.want)
			calls := w.d.Calls()
			w.at("A5, A8: "+what, 2, calls)
			w.is("P13.5: "+what, change(), api.ErrDead)
			w.save("P13.5: what is there: "+what, 1, api.ErrDead)
			w.is("P13.5: what is not plain: "+what, w.a.Save(api.Block{}, api.Cert{}), api.ErrDead)
			w.is("P13.5: "+what, w.a.Note(state(2, 2)), api.ErrDead)
			w.is("P13.5: what is not plain: "+what, w.a.Note(api.State{}), api.ErrDead)
			w.at("P13.5: "+what, 2, calls)
			if c.on {
				w.loads("A dead archive: "+what, 1)
				w.loads("A dead archive: "+what, 2)
				w.noted("A dead archive: "+what, state(2, 0), api.OK)
				w.d.Remove("x")
				w.is("P13.5: with room again: "+what, change(), api.ErrDead)
			} else {
				w.loadRefused("A dead archive: "+what, 1, api.ErrOff)
				w.noted("A dead archive: "+what, api.State{}, api.ErrOff)
				if got := heights(w.a, 1); got != nil {
					t.Errorf("A7: %s: %v", what, got)
				}
			}
			w.loadRefused("A dead archive: "+what, 3, api.ErrNone)
			head := uint64(2)
			if c.later && !note {
				head = 3
			}
			w.again(head)
			w.save("P13.5: an Open anew goes on: "+what, head+1, api.OK)
			for h := range head + 1 {
				w.loads("P13.2: "+what, h+1)
			}
			if !c.later || !note {
				w.noted("P13.4: "+what, state(2, 0), api.OK)
			} else if st, e := w.a.Noted(); e != api.OK || st.Ledger.Accounts[0].Balance != 1 {
				t.Errorf("P13.4: %s: %v, error %d", what, st, e)
			}
		}
	}
}

// used is how many bytes the files have.
func (w *world) used() (n int) {
	for _, f := range w.d.Names() {
		size, _, _ := w.d.Size(f)
		n += size
	}
	return n
}

// TestNotKilled: what is refused ahead of the writing kills nothing, also where the disk is off.
func TestNotKilled(t *testing.T) {
	w := grown(t, 2)
	w.is("A8", w.a.Note(state(2, 0)), api.OK)
	w.d.Crash(nil, 0)
	for range 2 { // the second time just as the first
		w.save("A5: read while off", 1, api.ErrOff)
		b, c := block(2, 1)
		w.is("A5: another, read while off", w.a.Save(b, c), api.ErrOff)
		w.save("A5: a gap while off", 4, api.ErrGap)
		w.is("A5: not plain while off", w.a.Save(api.Block{}, c), api.ErrField)
		w.is("A8: a gap while off", w.a.Note(state(1, 0)), api.ErrGap)
		w.is("A8: not plain while off", w.a.Note(api.State{}), api.ErrField)
		w.noted("A9: off", api.State{}, api.ErrOff)
	}
	w.save("A5: written while off", 3, api.ErrOff)
	w.save("P13.5", 3, api.ErrDead)
}

// TestTwoArchives: on two disks they have nothing in common; on one disk each goes by what it knows.
func TestTwoArchives(t *testing.T) {
	v, w := grown(t, 2), grown(t, 1)
	w.arm(1, api.TrFault, false)
	w.save("A5", 2, api.ErrFault)
	v.save("G4", 3, api.OK)
	w.loadRefused("G4", 2, api.ErrNone)
	v.loads("G4", 2)
	d, _ := disk.New(limit)
	v.d, w.d = d, d
	v.open(0)
	w.open(0)
	v.arm(1, api.TrFault, false)
	v.save("A5", 1, api.ErrFault)
	w.save("G7: the other is alive", 1, api.OK)
	v.save("P13.5", 1, api.ErrDead)
	v.at("A4", 0, 2)
	w.at("A4", 1, 2)
}

// TestFullOfFiles: where no file more can be made, a Save is refused; a state that is there is written over.
func TestFullOfFiles(t *testing.T) {
	w := grown(t, 2)
	w.is("A8", w.a.Note(state(2, 0)), api.OK)
	for k := 3; k < api.MaxFiles; k++ {
		w.d.Append(blockFile(uint64(k))[1:], nil)
	}
	w.is("A8", w.a.Note(state(2, 1)), api.OK)
	w.save("A5", 3, api.ErrFull)
	w.save("P13.5", 3, api.ErrDead)
	w.open(2)
	w.noted("A9", state(2, 1), api.OK)
}
