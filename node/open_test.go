package node_test

import (
	"bytes"
	"math/rand"
	"reflect"
	"slices"
	"testing"

	"assent/api"
	"assent/archive"
	"assent/chain"
	"assent/digest"
	"assent/disk"
	"assent/node"
	"assent/seal"
	"assent/wal"
	"assent/wire"
)

// TestOpenOrder: ErrNil, then ErrArg, then what is wrong with the beginning, then what is wrong with the archive.
func TestOpenOrder(t *testing.T) {
	w := begin(t, 1, 1)
	gap, _ := disk.New(limit)
	w.is("Append", gap.Append(blockName(2), nil), api.OK)
	off, _ := disk.New(limit)
	_, _ = off.Crash(nil, 0)
	nobody, misnamed := w.g, w.g
	nobody.Accounts = nil
	misnamed.Chain = ""
	twice := w.g
	twice.Accounts = []api.Account{{Addr: 1, Bond: 1}, {Addr: 1}}
	copied := copyOf(w.d)
	copiedSigner := copyOf(w.signer(1))
	empty, _ := disk.New(limit)
	for what, c := range map[string]struct {
		g    api.Genesis
		d    *disk.Disk
		r    *seal.Registry
		s    *seal.Signer
		now  uint64
		want api.Errno
	}{
		"no disk":                     {w.g, nil, w.r, w.signer(1), 1, api.ErrNil},
		"a disk that is none":         {w.g, &disk.Disk{}, w.r, w.signer(1), 1, api.ErrNil},
		"a copy of a disk":            {w.g, copied, w.r, w.signer(1), 1, api.ErrNil},
		"no registry":                 {w.g, empty, nil, w.signer(1), 1, api.ErrNil},
		"a registry that is none":     {w.g, empty, &seal.Registry{}, w.signer(1), 1, api.ErrNil},
		"a signer that is none":       {w.g, empty, w.r, &seal.Signer{}, 1, api.ErrNil},
		"a copy of a signer":          {w.g, empty, w.r, copiedSigner, 1, api.ErrNil},
		"no disk, and all else":       {misnamed, nil, w.r, nil, api.MaxTime + 1, api.ErrNil},
		"no registry, and all else":   {misnamed, off, nil, nil, api.MaxTime + 1, api.ErrNil},
		"no signer's, and all else":   {misnamed, off, w.r, &seal.Signer{}, api.MaxTime + 1, api.ErrNil},
		"too late":                    {w.g, empty, w.r, w.signer(1), api.MaxTime + 1, api.ErrArg},
		"too late, and nobody":        {nobody, off, w.r, nil, 1<<64 - 1, api.ErrArg},
		"no name":                     {misnamed, empty, w.r, nil, 1, api.ErrArg},
		"no genesis":                  {api.Genesis{}, empty, w.r, nil, 1, api.ErrArg},
		"nobody":                      {nobody, empty, w.r, nil, 1, api.ErrEmpty},
		"nobody, and off":             {nobody, off, w.r, nil, 1, api.ErrEmpty},
		"an account twice, and a gap": {twice, gap, w.r, nil, 1, api.ErrOrder},
		"off":                         {w.g, off, w.r, nil, 1, api.ErrOff},
		"a gap":                       {w.g, gap, w.r, nil, 1, api.ErrGap},
		"nothing wrong":               {w.g, empty, w.r, nil, api.MaxTime, api.OK},
	} {
		n, e := node.Open(c.g, c.d, c.r, c.s, c.now)
		if e != c.want || (n != nil) != (e == api.OK) {
			t.Errorf("N4: %s: error %d, want %d, and a node: %v", what, e, c.want, n != nil)
		}
	}
	if empty.Calls() != 0 {
		t.Errorf("N4: an opening on an empty disk writes")
	}
}

// withSum is a text with its digest behind it, as the archive's files have it.
func withSum(text []byte) []byte {
	sum := digest.Sum(text)
	return append(slices.Clone(text), sum[:]...)
}

// put replaces a file of the archive, its digest right.
func (w *world) put(file string, text []byte) {
	w.t.Helper()
	w.is("Replace", w.d.Replace(file, withSum(text)), api.OK)
}

func (w *world) putBlock(b api.Block, c api.Cert) {
	w.t.Helper()
	w.put(blockName(b.Header.Height), form(w.t, decision(b, c)))
}

func (w *world) putState(st api.State) {
	w.t.Helper()
	text, e := wire.EncodeState(st)
	w.is("EncodeState", e, api.OK)
	w.put("state", text)
}

// TestNoted: the state that was noted is gone on from where it can be trusted, and only there.
func TestNoted(t *testing.T) {
	spoilt := func(w *world) { // a block ahead of the noted state, which nobody looks at who goes on from that
		w.is("Replace", w.d.Replace(blockName(3), []byte("x")), api.OK)
	}
	noted := func(w *world, bend func(st *api.State)) {
		a, e := archive.Open(w.d)
		w.is("archive.Open", e, api.OK)
		st, e := a.Noted()
		w.is("Noted", e, api.OK)
		bend(&st)
		w.putState(st)
	}
	for what, c := range map[string]struct {
		bend func(w *world)
		want api.Errno // with the block 3 spoilt: OK, if the noted state counts
	}{
		"as it was noted":       {func(w *world) {}, api.OK},
		"none":                  {func(w *world) { w.is("Remove", w.d.Remove("state"), api.OK) }, api.ErrSpoilt},
		"one that is spoilt":    {func(w *world) { w.is("Replace", w.d.Replace("state", []byte("x")), api.OK) }, api.ErrSpoilt},
		"of another chain":      {func(w *world) { noted(w, func(st *api.State) { st.Chain = "d" }) }, api.ErrSpoilt},
		"of other parameters":   {func(w *world) { noted(w, func(st *api.State) { st.Params.Trusting++ }) }, api.ErrSpoilt},
		"behind another block":  {func(w *world) { noted(w, func(st *api.State) { st.Last[0]++ }) }, api.ErrSpoilt},
		"of another height":     {func(w *world) { noted(w, func(st *api.State) { st.Height = 7 }) }, api.ErrSpoilt},
		"above the head":        {func(w *world) { noted(w, func(st *api.State) { st.Height = 12 }) }, api.ErrSpoilt},
		"of the height 0":       {func(w *world) { noted(w, func(st *api.State) { st.Height = 0 }) }, api.ErrSpoilt},
		"with no council":       {func(w *world) { noted(w, func(st *api.State) { st.Council.Members = nil }) }, api.ErrSpoilt},
		"behind a spoilt block": {func(w *world) { w.is("Replace", w.d.Replace(blockName(8), []byte("x")), api.OK) }, api.ErrSpoilt},
	} {
		for _, blocks := range []int{8, 11} {
			w := begin(t, 4, 1)
			w.grow(blocks)
			want := w.n.State()
			c.bend(w)
			e := w.tryOpen(100)
			if what == "behind a spoilt block" || what == "with no council" {
				w.is("N4: "+what, e, api.ErrSpoilt)
			} else {
				w.is("N4: "+what, e, api.OK)
				if got := w.n.State(); !reflect.DeepEqual(got, want) {
					t.Errorf("N4: %s: %+v, want %+v", what, got, want)
				}
			}
			spoilt(w)
			w.is("N4: "+what+", a block spoilt", w.tryOpen(100), c.want)
		}
	}
}

// TestOtherParams: what no header binds is the genesis', not that of a state which was noted with another.
func TestOtherParams(t *testing.T) {
	w := begin(t, 4, 1)
	w.grow(9)
	w.g.Params.Resend = 7
	w.open(100)
	w.at("N4", 9, false)
	if w.n.State().Params != w.g.Params {
		t.Errorf("N4: %+v", w.n.State().Params)
	}
	w.tick("N6", 107, api.OK)
	_, all := w.out()
	if !slices.ContainsFunc(all, func(m api.Msg) bool { return m.Kind == api.MsgStatus }) {
		t.Errorf("N4: the next sending is 107")
	}
}

// TestArchiveLookedOver: each block above the noted state must be valid, and its certificate one of its council.
func TestArchiveLookedOver(t *testing.T) {
	for what, c := range map[string]struct {
		bend func(w *world, b *api.Block, c *api.Cert)
		want api.Errno
	}{
		"as it was":           {func(w *world, b *api.Block, c *api.Cert) {}, api.OK},
		"another certificate": {func(w *world, b *api.Block, c *api.Cert) { *c = w.cert(5, *b, 300, 1, 2, 3, 4) }, api.OK},
		"too few":             {func(w *world, b *api.Block, c *api.Cert) { c.Marks = c.Marks[:2] }, api.ErrSpoilt},
		"a seal":              {func(w *world, b *api.Block, c *api.Cert) { c.Marks[1].Seal[0]++ }, api.ErrSpoilt},
		"no member":           {func(w *world, b *api.Block, c *api.Cert) { c.Marks[2].Index = 9 }, api.ErrSpoilt},
		"another time": {func(w *world, b *api.Block, c *api.Cert) {
			b.Header.Time++
			*c = w.cert(0, *b, 300, 2, 3, 4)
		}, api.ErrSpoilt},
		"what the header does not say": {func(w *world, b *api.Block, c *api.Cert) { b.Txs = []api.Tx{w.pay(1, 2, 1, 0, 0)} }, api.ErrSpoilt},
	} {
		for _, at := range []uint64{1, 2, 9, 10} {
			w := begin(t, 4, 1)
			w.grow(10)
			b, x, e := w.n.Block(at)
			w.is("N8", e, api.OK)
			c.bend(w, &b, &x)
			w.putBlock(b, x)
			want := c.want
			if at < 8 {
				want = api.OK // the noted state is trusted as the disk is
			}
			w.is("N4: "+what, w.tryOpen(100), want)
			w.is("Remove", w.d.Remove("state"), api.OK)
			w.is("N4: "+what+", nothing noted", w.tryOpen(100), c.want)
			if c.want == api.OK {
				w.at("N4", 10, false)
				w.isPlayed("P15.2")
			}
		}
	}
}

// TestOtherGenesis: with another beginning the blocks are none of its chain.
func TestOtherGenesis(t *testing.T) {
	for what, bend := range map[string]func(g *api.Genesis){
		"another name":    func(g *api.Genesis) { g.Chain = "d" },
		"another time":    func(g *api.Genesis) { g.Time++ },
		"another balance": func(g *api.Genesis) { g.Accounts[2].Balance++ },
		"another council": func(g *api.Genesis) { g.Accounts = append(g.Accounts, api.Account{Addr: 9, Bond: 1}) },
	} {
		w := begin(t, 4, 1)
		w.grow(3)
		bend(&w.g)
		w.is("N4: "+what, w.tryOpen(100), api.ErrSpoilt)
	}
	w := begin(t, 4, 1)
	w.grow(3)
	w.r = seal.New() // a book in which nobody has signed
	w.signers = map[api.Addr]*seal.Signer{}
	w.is("N4: another registry", w.tryOpen(100), api.ErrSpoilt)
}

// TestLogTaken: a log is cut where it is torn, and synced, ahead of being played.
func TestLogTaken(t *testing.T) {
	// Nothing of the log is synced.
	w := newWorld(t, genesis(4), 2)
	rec, _ := wire.EncodeInput(api.Input{Kind: api.InStart, Now: 105})
	frame, _ := wal.Frame(rec)
	w.is("Append", w.d.Append(logName(1), append(frame, 1, 2, 3)), api.OK)
	w.open(100)
	w.wrote("N4: cut, which syncs", 0, api.Input{Kind: api.InStart, Now: 105})
	w = newWorld(t, genesis(4), 2)
	w.is("Append", w.d.Append(logName(1), frame), api.OK)
	w.open(100)
	w.wrote("N4: synced", 0, api.Input{Kind: api.InStart, Now: 105})
	if w.d.Calls() != 2 {
		t.Errorf("N4: %d calls of the disk", w.d.Calls())
	}
	w.open(100)
	if w.d.Calls() != 2 {
		t.Errorf("N4: a log that is synced is synced again")
	}
	for _, tail := range [][]byte{nil, {9}} { // the Sync, the Cut
		for _, tr := range []struct {
			kind int
			want api.Errno
		}{{api.TrFault, api.ErrFault}, {api.TrPower, api.ErrOff}} {
			w := newWorld(t, genesis(4), 1)
			w.is("Append", w.d.Append(logName(1), append(slices.Clone(frame), tail...)), api.OK)
			w.arm(1, tr.kind, false)
			w.is("N4", w.tryOpen(100), tr.want)
			if w.r.Count() != 0 {
				t.Errorf("N4: signed for what was not synced")
			}
		}
	}
	// The log of another height says nothing.
	w = newWorld(t, genesis(4), 2)
	w.putLog(2, api.Input{Kind: api.InStart, Now: 999})
	w.putLog(0x11, api.Input{Kind: api.InStart, Now: 999})
	w.open(100)
	w.view("N4", 0, api.StepNew, -1, -1)
	if w.n.Clock() != 100 {
		t.Errorf("N4: the clock is %d", w.n.Clock())
	}
}

// TestLogName: sixteen digits, base 16, small letters.
func TestLogName(t *testing.T) {
	w := begin(t, 4, 2)
	w.grow(26)
	w.tick("N6", 200, api.OK)
	if _, e := w.d.Read("wal-000000000000001b"); e != api.OK {
		t.Errorf("N1: %v", w.d.Names())
	}
}

// TestOpenClock: the clock is what Open was handed, or the greatest time of the log; the start and the next sending go by what it was handed.
func TestOpenClock(t *testing.T) {
	v := func(w *world, from api.Addr, now uint64) api.Input {
		return api.Input{Kind: api.InVote, Now: now, Votes: []api.Vote{w.vote(api.Vote{Kind: api.Prevote, Height: 1, From: from})}}
	}
	for _, c := range []struct{ now, want uint64 }{{100, 120}, {119, 120}, {120, 120}, {121, 121}, {0, 120}, {api.MaxTime, api.MaxTime}} {
		w := newWorld(t, genesis(4), 4)
		w.putLog(1, v(w, 1, 110), v(w, 2, 120), v(w, 3, 90))
		w.open(c.now)
		if w.n.Clock() != c.want {
			t.Errorf("N4: opened at %d the clock is %d, want %d", c.now, w.n.Clock(), c.want)
		}
		w.view("N4", 0, api.StepNew, -1, -1)
		w.sent("N4")
	}
	w := newWorld(t, genesis(4), 4)
	w.putLog(1, v(w, 1, 120))
	w.open(119) // the start is 121, the next sending 169
	w.tick("N6", 0, api.OK)
	w.wrote("N4: not begun", 1)
	w.tick("N6", 121, api.OK)
	w.wrote("N4", 1, api.Input{Kind: api.InStart, Now: 121})
	w.tick("N6", 168, api.OK)
	w.n.Out()
	w.tick("N6", 169, api.OK)
	if m := w.sent("N4", api.MsgStatus, api.MsgVote, api.MsgVote); m[0].Height != 1 {
		t.Errorf("N6: %+v", m)
	}
	w = newWorld(t, genesis(4), 4)
	w.putLog(1, v(w, 1, 500))
	w.open(100) // the clock is 500, so the start is over
	w.tick("N6", 0, api.OK)
	w.wrote("N4", 1, api.Input{Kind: api.InStart, Now: 500})
	w.sent("N4: and the next sending", api.MsgStatus, api.MsgVote)
}

// TestSpoiltRecord: a record that does not decode is told when its turn comes; the clock goes by those that do.
func TestSpoiltRecord(t *testing.T) {
	w := newWorld(t, genesis(4), 4)
	w.putLog(1, api.Input{Kind: api.InStart, Now: 102})
	w.putRecord(1, []byte{9})
	w.putLog(1, api.Input{Kind: api.InTimeout, Now: 107, Step: api.StepPropose})
	for range 2 {
		w.is("N4", w.tryOpen(100), api.ErrSpoilt)
	}
	if w.r.Count() != 0 {
		t.Errorf("N4: what stands behind it was played")
	}
	// Own is asked for a block, and the next record is no InBuilt, for it is nothing.
	w = newWorld(t, genesis(1), 1)
	w.putLog(1, api.Input{Kind: api.InStart, Now: 102})
	w.putRecord(1, nil)
	w.is("N4", w.tryOpen(100), api.ErrSpoilt)
	if w.r.Count() != 0 {
		t.Errorf("N4: a block was made")
	}
	// Behind a decision the rest is not looked at.
	w = begin(t, 1, 1)
	b := w.block(1)
	w.d, _ = disk.New(limit)
	w.putLog(1, api.Input{Kind: api.InStart, Now: 102}, api.Input{Kind: api.InBuilt, Now: 102, Block: b})
	w.putRecord(1, []byte("rest"))
	w.putLog(1, api.Input{Kind: api.InTimeout, Now: 150, Step: api.StepPropose})
	w.open(100)
	w.at("N4", 1, false)
	if w.n.Clock() != 150 {
		t.Errorf("N4: the clock is %d", w.n.Clock())
	}
	w.tick("N6: the start is 104", 0, api.OK)
	w.at("N6", 2, false)
}

// someInput is an input that may stand in a log of height 1, mostly one that an engine takes.
func (w *world) someInput(r *rand.Rand, blocks []api.Block) api.Input {
	b := blocks[r.Intn(2)*r.Intn(len(blocks))]
	id := idOf(b)
	if r.Intn(5) == 0 {
		id = none
	}
	round, from := r.Intn(2)*r.Intn(3), api.Addr(1+r.Intn(4))
	switch r.Intn(10) {
	case 0:
		return api.Input{Kind: api.InStart}
	case 1:
		m := w.proposal(round, -1, b)
		return api.Input{Kind: api.InProposal, Proposal: m.Proposal, Block: b, Good: r.Intn(4) > 0}
	case 2:
		return api.Input{Kind: api.InPolka, Block: b, Votes: w.polka(round, idOf(b), 1, 2, 3, 4)[r.Intn(2):], Good: r.Intn(4) > 0}
	case 3:
		return api.Input{Kind: api.InBuilt, Round: round, Block: b}
	case 4, 5:
		return api.Input{Kind: api.InTimeout, Step: 1 + r.Intn(3), Round: round}
	case 6, 7:
		return api.Input{Kind: api.InVote, Votes: []api.Vote{w.prevote(round, id, from)}}
	}
	v := api.Vote{Kind: api.Precommit, Height: 1, Round: round, Id: id, From: from}
	if id != none {
		v.Time = 200
	}
	return api.Input{Kind: api.InVote, Votes: []api.Vote{w.vote(v)}}
}

// TestWhateverLogs: logs of whatever inputs, in whatever order, are played as the model plays them; and it goes on from there.
func TestWhateverLogs(t *testing.T) {
	r := rand.New(rand.NewSource(154))
	heights, counts := 0, map[api.Errno]int{}
	for range 1500 {
		w := begin(t, 4, api.Addr(1+r.Intn(3)))
		blocks := []api.Block{w.block(1), w.block(2), w.block(3, w.pay(2, 3, 1, 1, 0))}
		if r.Intn(4) == 0 {
			blocks[0].Header.Time++ // not valid
		}
		w.d, _ = disk.New(limit)
		d, _ := disk.New(limit)
		now := uint64(100)
		for k := range 1 + r.Intn(40) {
			in := w.someInput(r, blocks)
			if k == 0 && r.Intn(4) > 0 {
				in = api.Input{Kind: api.InStart}
			}
			if in.Kind != api.InBuilt { // it has the time of what it was asked for by
				now += uint64(r.Intn(3))
			}
			in.Now = now
			w.putLog(1, in)
		}
		file, _ := w.d.Read(logName(1))
		w.is("Append", d.Append(logName(1), file), api.OK)
		w.is("Sync", d.Sync(logName(1)), api.OK)
		e := w.tryOpen(110)
		m, want := openModel(w.g, d, w.r, w.signer(w.own), 110)
		w.is("N4", e, want)
		counts[e]++
		if e != api.OK {
			continue
		}
		for k := 0; k < 12 && !m.dead; k++ {
			if w.n.View() != m.en.View() || w.n.Clock() != m.clock || !sameState(w.n.State(), m.st()) || !reflect.DeepEqual(w.n.Out(), m.out) {
				t.Fatalf("N4: %+v, want %+v", w.n.View(), m.en.View())
			}
			m.out = nil
			w.is("N6", w.n.Tick(110+3*uint64(k)), m.tick(110+3*uint64(k)))
		}
		one, _ := w.d.Read(logName(1))
		if two, _ := d.Read(logName(1)); !bytes.Equal(one, two) {
			t.Fatalf("N1: another log")
		}
		heights += int(w.n.State().Height)
	}
	if heights < 20 || counts[api.ErrSpoilt] == 0 {
		t.Errorf("%d heights are decided, errors %v", heights, counts)
	}
}

// TestForgedLog: a block that a log calls good, and that is none, is not kept: where it is decided the node is dead, and can be asked all the same.
func TestForgedLog(t *testing.T) {
	forged := func(members int) *world {
		w := begin(t, members, 1)
		b := w.block(1)
		b.Header.Time++
		w.d, _ = disk.New(limit)
		w.putLog(1, api.Input{Kind: api.InStart, Now: 102}, api.Input{Kind: api.InBuilt, Now: 102, Block: b})
		return w
	}
	w := forged(1)
	for range 3 {
		w.is("N4", w.tryOpen(100), api.ErrSpoilt)
	}
	if got := w.d.Names(); !slices.Equal(got, []string{logName(1)}) {
		t.Errorf("P15.2: %v", got)
	}
	w = forged(4)
	w.open(100)
	b := w.sent("N4", api.MsgProposal, api.MsgVote)[0].Block
	for _, a := range []api.Addr{2, 3} {
		w.deliver("N5", voted(w.prevote(0, idOf(b), a)), api.OK)
	}
	w.deliver("N5", voted(w.precommit(0, idOf(b), 109, 2)), api.OK)
	w.deliver("N5", voted(w.precommit(0, idOf(b), 109, 3)), api.ErrSpoilt)
	w.at("P15.2", 0, true)
	for h := range uint64(3) {
		_, _, e := w.n.Block(h)
		w.is("N8", e, api.ErrNone)
		_, e = w.n.Answer(h)
		w.is("N8", e, api.ErrNone)
	}
}

// TestRefusedRecords: what an engine refuses is nothing, also in a log.
func TestRefusedRecords(t *testing.T) {
	w := newWorld(t, genesis(4), 2)
	other := w.vote(api.Vote{Kind: api.Prevote, Height: 2, From: 1})
	w.putLog(1,
		api.Input{Kind: api.InTimeout, Now: 90, Step: api.StepPropose}, // it has not begun
		api.Input{Kind: api.InVote, Now: 90, Votes: []api.Vote{other}}, // another height
		api.Input{Kind: api.InStart, Now: 102},
		api.Input{Kind: api.InStart, Now: 103}, // again
		api.Input{Kind: api.InTimeout, Now: 104, Step: api.StepPropose, Round: 5},
	)
	w.open(104)
	w.view("N4", 0, api.StepPropose, -1, -1)
	w.sent("N4")
	w.tick("N6", 106, api.OK)
	w.view("N6", 0, api.StepPropose, -1, -1)
	w.tick("N6", 107, api.OK)
	w.wrote("N4: the wait of 102 is there", 5, api.Input{Kind: api.InTimeout, Now: 107, Step: api.StepPropose})
}

// TestWaitsAgain: waits are there again, from the records' times on, but for those that were handed in.
func TestWaitsAgain(t *testing.T) {
	w := started(t, 4, 4)
	w.tick("N6", 104, api.OK)
	for _, a := range []api.Addr{1, 2, 3} {
		w.deliver("N5", voted(w.precommit(0, none, 0, a)), api.OK) // StepPrecommit: 110
	}
	w.open(103)
	w.tick("N6", 106, api.OK)
	w.wrote("N4", 4)
	w.tick("N6", 107, api.OK)
	w.wrote("N4: of 102", 4, api.Input{Kind: api.InTimeout, Now: 107, Step: api.StepPropose})
	w.open(300)
	w.tick("N6", 300, api.OK)
	w.wrote("N4: of 104; that of 102 is handed in", 5, api.Input{Kind: api.InTimeout, Now: 300, Step: api.StepPrecommit})
	w.view("N4", 1, api.StepPropose, -1, -1)
	w.tick("N6", 309, api.OK)
	w.wrote("N4: that of round 1 is not over", 6)
	w.open(100)
	w.tick("N6", 310, api.OK)
	w.wrote("N4: of 300", 6, api.Input{Kind: api.InTimeout, Now: 310, Step: api.StepPropose, Round: 1})
}

// TestBuildAgain: a block that was asked for is the one that was written down then; where others were written behind none was made; where nothing was, it is made now.
func TestBuildAgain(t *testing.T) {
	start := api.Input{Kind: api.InStart, Now: 102}
	w := begin(t, 4, 1)
	x := w.pay(2, 3, 1, 1, 0)
	full, bare := w.block(1, x), w.block(1)
	built := func(round int, b api.Block) api.Input {
		return api.Input{Kind: api.InBuilt, Now: 102, Round: round, Block: b}
	}
	vote := api.Input{Kind: api.InVote, Now: 103, Votes: []api.Vote{w.prevote(0, none, 3)}}
	for what, c := range map[string]struct {
		log      []api.Input
		proposes bool
		id       api.Hash
		wrote    []api.Input
	}{
		"written down":              {[]api.Input{start, built(0, full)}, true, idOf(full), nil},
		"written down, and more":    {[]api.Input{start, built(0, full), vote}, true, idOf(full), nil},
		"another behind":            {[]api.Input{start, vote}, false, none, nil},
		"another behind, then it":   {[]api.Input{start, vote, built(0, full)}, true, idOf(full), nil}, // no node writes that
		"one of another round":      {[]api.Input{start, built(1, full)}, false, none, nil},
		"nothing behind":            {[]api.Input{start}, true, idOf(bare), []api.Input{built(0, bare)}},
		"nothing behind, votes led": {[]api.Input{vote, start}, true, idOf(bare), []api.Input{built(0, bare)}},
	} {
		w.d, _ = disk.New(limit)
		w.putLog(1, c.log...)
		w.open(100)
		w.wrote("N4: "+what, len(c.log), c.wrote...)
		_, all := w.out()
		proposed := slices.IndexFunc(all, func(m api.Msg) bool { return m.Kind == api.MsgProposal })
		if (proposed >= 0) != c.proposes || c.proposes && all[proposed].Proposal.Id != c.id {
			t.Errorf("N4: %s: %d messages, %+v", what, len(all), all)
		}
	}
}

// TestOpenDisk: what the disk refuses while the log is played is Open's answer.
func TestOpenDisk(t *testing.T) {
	for at := 1; at <= 4; at++ { // Append, Sync, the block's Replace; the fourth does not come
		for _, tr := range []api.Trouble{{Kind: api.TrFault}, {Kind: api.TrPower}, {Kind: api.TrPower, Done: true}} {
			w := newWorld(t, genesis(1), 1)
			w.putLog(1, api.Input{Kind: api.InStart, Now: 102})
			w.arm(at, tr.Kind, tr.Done)
			want := api.ErrFault
			switch {
			case at == 4:
				want = api.OK
			case tr.Kind == api.TrPower:
				want = api.ErrOff
			}
			w.is("N4", w.tryOpen(100), want)
			signed := w.r.Count()
			if (signed > 0) != (at > 2) {
				t.Errorf("N1: %d messages are signed, the call %d was refused", signed, at)
			}
			if at == 4 {
				continue
			}
			if tr.Kind == api.TrPower {
				w.crash()
			}
			w.open(100)
			w.at("N4", 1, false)
			w.isPlayed("P15.2")
			w.isHonest()
		}
	}
	// A disk that is full.
	w := newWorld(t, genesis(1), 1)
	w.d, _ = disk.New(30)
	w.putLog(1, api.Input{Kind: api.InStart, Now: 102})
	w.is("N4", w.tryOpen(100), api.ErrFull)
}

// TestOpenAgain: P15.4: a node that is opened twice tells the same, and sends the same bytes.
func TestOpenAgain(t *testing.T) {
	for what, play := range map[string]func(w *world){
		"nothing yet": func(w *world) {},
		"begun":       func(w *world) { w.tick("N6", 102, api.OK) },
		"later":       func(w *world) { w.tick("N6", 102, api.OK); w.tick("N6", 107, api.OK); w.tick("N6", 120, api.OK) },
		"decided":     func(w *world) { w.grow(9); w.tick("N6", 102, api.OK); w.tick("N6", 110, api.OK) },
		"a polka": func(w *world) {
			w.tick("N6", 102, api.OK)
			b := w.block(3)
			w.deliver("N5", api.Msg{Kind: api.MsgPolka, Block: b, Votes: w.polka(1, idOf(b), 2, 3, 4)}, api.OK)
		},
	} {
		w := begin(t, 4, 1)
		play(w)
		_, sent := w.out()
		was := w.told()
		im, _ := w.d.Crash(nil, 0)
		for range 3 {
			w.mount(im)
			w.open(100)
			first := w.n.Out()
			one := told{}.of(w.n)
			w.open(100)
			second := w.n.Out()
			if two := (told{}).of(w.n); !reflect.DeepEqual(one, two) || !reflect.DeepEqual(first, second) {
				t.Errorf("P15.4: %s: %+v, %+v", what, one, two)
			}
			if one.View != was.View || !reflect.DeepEqual(one.State, was.State) {
				t.Errorf("W9: %s: %+v, want %+v", what, one.View, was.View)
			}
			var own []api.Msg // of the height that is being decided
			for _, m := range sent {
				if m.Kind == api.MsgVote && m.Votes[0].Height == w.height() || m.Kind == api.MsgProposal && m.Proposal.Height == w.height() {
					own = append(own, m)
				}
			}
			var got []api.Msg
			for _, o := range second {
				m, _ := wire.DecodeMsg(o.Bytes)
				got = append(got, m)
			}
			if !reflect.DeepEqual(got, own) {
				t.Errorf("P15.4: %s: %d messages, want %d", what, len(got), len(own))
			}
		}
		if w.r.Count() != was.Signed {
			t.Errorf("P15.1: %s: %d messages are signed, %d were", what, w.r.Count(), was.Signed)
		}
	}
	// Where a block is decided in the first Open, the second finds the next height.
	w := begin(t, 1, 1)
	w.arm(5, api.TrFault, false)
	w.tick("N3", 102, api.ErrFault)
	w.open(90)
	one := told{}.of(w.n)
	w.sent("N4", api.MsgProposal, api.MsgVote, api.MsgVote)
	w.open(90)
	two := told{}.of(w.n)
	w.sent("N4")
	if one.Clock != 102 || two.Clock != 90 {
		t.Errorf("N4: the clock is %d, then %d", one.Clock, two.Clock)
	}
	one.Clock = two.Clock
	if !reflect.DeepEqual(one, two) {
		t.Errorf("P15.4: %+v, %+v", one, two)
	}
}

// TestOpenPools: an opening finds nothing that waits.
func TestOpenPools(t *testing.T) {
	w := begin(t, 4, 1)
	w.grow(2)
	w.is("N7", w.n.Submit(w.pay(2, 3, 1, 1, 0)), api.OK)
	w.deliver("N5", api.Msg{Kind: api.MsgEvidence, Evidence: w.evidence(2, 4)}, api.OK)
	w.open(100)
	if got := w.n.Pool(); len(got) != 0 {
		t.Errorf("N4: %v wait", got)
	}
	w.sent("N4")
	w.deliver("N4: it waits no more", api.Msg{Kind: api.MsgEvidence, Evidence: w.evidence(2, 4)}, api.OK)
}

// TestOpenEvidence: fresh evidence is found again in the log.
func TestOpenEvidence(t *testing.T) {
	w := started(t, 4, 1)
	x, y := w.prevote(0, none, 4), w.prevote(0, api.Hash{1}, 4)
	w.deliver("N5", voted(x), api.OK)
	w.deliver("N5", voted(y), api.OK)
	w.open(103)
	w.n.Out()
	w.grow(1)
	if m := w.sent("N3", api.MsgEvidence); m[0].Evidence != (api.Evidence{A: x, B: y}) {
		t.Errorf("N3: %+v", m)
	}
}

// TestComeAgain: what stands in the log has come, and so has what was brought forth of it.
func TestComeAgain(t *testing.T) {
	w := started(t, 4, 1)
	own := w.sent("N2", api.MsgProposal, api.MsgVote)
	b := own[0].Block
	msgs := []api.Msg{voted(w.prevote(0, idOf(b), 3)), {Kind: api.MsgPolka, Block: b, Votes: w.polka(0, idOf(b), 2, 3, 4)}, w.proposal(2, -1, b)}
	for _, m := range msgs {
		w.deliver("N5", m, api.OK)
	}
	w.open(105)
	for _, m := range append(msgs, own...) {
		w.refuses("N4: it has come", m, api.OK)
	}
}

// TestHostileDisks: whatever stands on a disk, Open ends, and what it opens can be used.
func TestHostileDisks(t *testing.T) {
	w := begin(t, 4, 1)
	w.grow(9)
	w.tick("N6", 104, api.OK)
	w.tick("N6", 120, api.OK)
	im, _ := w.d.Crash(nil, 0)
	counts := map[api.Errno]int{}
	for k, f := range im.Files {
		for at := 0; at < len(f.Bytes); at += 1 + len(f.Bytes)/40 {
			for _, bend := range []func([]byte) []byte{
				func(b []byte) []byte { b[at] ^= 1; return b },
				func(b []byte) []byte { return b[:at] },
				func(b []byte) []byte { b[at] ^= 0x41; return withSum(b[:max(0, len(b)-32)]) },
			} {
				files := slices.Clone(im.Files)
				files[k].Bytes = bend(bytes.Clone(f.Bytes))
				w.mount(api.Image{Files: files})
				e := w.tryOpen(110)
				counts[e]++
				if e != api.OK {
					continue
				}
				for now := uint64(110); now < 130; now += 5 {
					w.n.Tick(now)
				}
				w.n.Deliver(0, form(t, voted(w.prevote(0, none, 2))))
				w.n.Answer(2)
				w.n.Out()
			}
		}
	}
	if counts[api.OK] == 0 || counts[api.ErrSpoilt] == 0 {
		t.Errorf("%v", counts)
	}
}

// TestForgedStates: a noted state of whatever content, whose chain, parameters and last block are right, is gone on from or refused, and nothing panics.
func TestForgedStates(t *testing.T) {
	w := begin(t, 4, 1)
	w.grow(8)
	good := w.n.State()
	im, _ := w.d.Crash(nil, 0)
	twin := begin(t, 4, 1)
	twin.grow(6)
	other := twin.n.State()
	for what, bend := range map[string]func(st *api.State){
		"no past":             func(st *api.State) { st.Past = nil },
		"a past of the wrong": func(st *api.State) { st.Past = other.Past },
		"far heights":         func(st *api.State) { st.Past[3].Height = api.MaxHeight },
		"past height 0":       func(st *api.State) { st.Past[0].Height = 0 },
		"no members there":    func(st *api.State) { st.Past[1].Council.Members = nil },
		"no next council":     func(st *api.State) { st.Next.Members = nil },
		"nobody in council":   func(st *api.State) { st.Council.Members = []api.Member{{}} },
		"no accounts":         func(st *api.State) { st.Ledger.Accounts = nil },
		"another supply":      func(st *api.State) { st.Ledger.Supply++ },
		"others' ledger":      func(st *api.State) { st.Ledger.Accounts[1].Bond++ },
		"the last time":       func(st *api.State) { st.Time = api.MaxTime },
		"punished":            func(st *api.State) { st.Punished = []api.Offence{{Height: 99, Addr: 7}} },
	} {
		st := api.State{}
		text, _ := wire.EncodeState(good)
		st, _ = wire.DecodeState(text)
		bend(&st)
		w.mount(im)
		w.putState(st)
		if e := w.tryOpen(110); e != api.OK {
			w.is("N4: "+what, e, api.ErrSpoilt)
			continue
		}
		for now := uint64(110); now < 140; now++ {
			w.n.Tick(now)
		}
		for h := range uint64(10) {
			w.n.Answer(h)
		}
		w.n.Submit(w.pay(2, 3, 1, 1, 0))
		w.n.Deliver(0, form(t, api.Msg{Kind: api.MsgEvidence, Evidence: w.evidence(7, 4)}))
		if c := w.n.State().Council; len(c.Members) > 0 {
			w.n.Deliver(0, form(t, voted(w.prevote(0, none, 2))))
		}
	}
}

// TestGoesOn: behind an opening the chain goes on where it was, as Valid asks.
func TestGoesOn(t *testing.T) {
	w := begin(t, 1, 1)
	now := uint64(100)
	for k := range 40 {
		now += 2
		w.tick("N6", now, api.OK)
		if k%3 == 0 {
			w.open(now)
		}
		if k%7 == 0 {
			w.crash()
			w.open(now)
		}
	}
	if got := w.n.State().Height; got < 20 {
		t.Errorf("N4: height %d", got)
	}
	w.isPlayed("P15.2")
	w.isHonest()
	st, _ := chain.Begin(w.g)
	for h := uint64(1); h <= w.n.State().Height; h++ {
		b, _, _ := w.n.Block(h)
		if h > 1 && b.Header.Time <= st.Time {
			t.Errorf("P15.2: the time of %d", h)
		}
		st, _ = chain.Apply(st, w.r, b)
	}
}
