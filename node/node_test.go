package node_test

import (
	"math"
	"reflect"
	"slices"
	"testing"

	"assent/api"
	"assent/chain"
)

// TestExample1: a chain with one member decides in the call in which it begins.
func TestExample1(t *testing.T) {
	w := begin(t, 1, 1)
	if got, want := w.n.View(), (api.View{Height: 1, Locked: -1, Valid: -1}); got != want {
		t.Errorf("N4: %+v", got)
	}
	w.sent("N4")
	w.tick("N6", 101, api.OK)
	w.sent("N6: ahead of the start")
	w.at("N6: ahead of the start", 0, false)
	w.tick("N6", 102, api.OK)
	w.at("example 1", 1, false)
	w.view("example 1", 0, api.StepNew, -1, -1)
	if got := w.d.Names(); !slices.Equal(got, []string{"block-0000000000000001", "wal-0000000000000001"}) || w.d.Calls() != 5 {
		t.Errorf("example 1: %v, %d calls", got, w.d.Calls())
	}
	b, c, e := w.n.Block(1)
	w.is("N8", e, api.OK)
	recs := w.records(1)
	want := []api.Input{{Kind: api.InStart, Now: 102}, {Kind: api.InBuilt, Now: 102, Block: b}}
	if !slices.EqualFunc(recs, want, likeInput) {
		t.Errorf("example 1: %s", inputs(recs))
	}
	all := w.sent("example 1", api.MsgProposal, api.MsgVote, api.MsgVote)
	p := api.Proposal{Height: 1, ValidRound: -1, Id: idOf(b), From: 1}
	if m := w.sealProposal(api.Msg{Kind: api.MsgProposal, Proposal: p, Block: b}); !reflect.DeepEqual(all[0], m) {
		t.Errorf("example 1: %+v", all[0])
	}
	prevote := w.vote(api.Vote{Kind: api.Prevote, Height: 1, Id: idOf(b), From: 1})
	precommit := w.vote(api.Vote{Kind: api.Precommit, Height: 1, Id: idOf(b), Time: 102, From: 1})
	if all[1].Votes[0] != prevote || all[2].Votes[0] != precommit {
		t.Errorf("example 1: %+v, %+v", all[1].Votes, all[2].Votes)
	}
	if want := (api.Cert{Height: 1, Id: idOf(b), Marks: []api.Mark{{Time: 102, Seal: precommit.Seal}}}); !reflect.DeepEqual(c, want) {
		t.Errorf("example 1: %+v", c)
	}
	if w.r.Count() != 3 {
		t.Errorf("example 1: %d messages are signed", w.r.Count())
	}
	w.sent("N8: asked again")
}

// TestExample2: who tells that he is behind is sent what was decided there, he alone.
func TestExample2(t *testing.T) {
	w := alone(t, 1)
	status := func(h uint64) []byte { return form(t, api.Msg{Kind: api.MsgStatus, Height: h}) }
	w.is("N5", w.n.Deliver(1, status(1)), api.OK)
	b, c, _ := w.n.Block(1)
	to, all := w.out()
	if len(all) != 1 || to[0] != 1 || !reflect.DeepEqual(all[0], decision(b, c)) {
		t.Errorf("example 2: to %v: %+v", to, all)
	}
	was := w.told()
	w.is("N5", w.n.Deliver(1, status(2)), api.OK)
	w.is("N5", w.n.Deliver(1, status(api.MaxHeight)), api.OK)
	for _, from := range []int{-1, math.MinInt} {
		w.is("N5", w.n.Deliver(from, status(1)), api.ErrSource)
		w.is("N5", w.n.Deliver(from, status(2)), api.ErrSource)
	}
	w.unchanged("example 2", was)
	w.is("N5", w.n.Deliver(math.MaxInt, status(1)), api.OK)
	if to, _ := w.out(); len(to) != 1 || to[0] != math.MaxInt {
		t.Errorf("N5: to %v", to)
	}
}

func TestExample3(t *testing.T) {
	w := alone(t, 1)
	v := api.Vote{Kind: api.Prevote, Height: 1, From: 1}
	w.refuses("example 3: a height that is decided", voted(w.vote(v)), api.ErrSource)
	v.Height, v.From = 2, 9
	w.refuses("example 3: no member", voted(w.vote(v)), api.ErrMember)
	v.From = 1
	v = w.vote(v)
	v.Seal[15]++
	w.refuses("example 3: another seal", voted(v), api.ErrSeal)
	was := w.told()
	w.is("example 3", w.n.Deliver(0, []byte{9}), api.ErrKind)
	w.is("example 3", w.n.Deliver(0, nil), api.ErrCut)
	w.unchanged("example 3", was)
}

func TestExample4(t *testing.T) {
	w := alone(t, 1) // the clock is 102
	w.arm(1, api.TrFault, false)
	w.tick("example 4", 104, api.ErrFault)
	w.at("example 4", 1, true)
	was := w.told()
	w.tick("P15.8", 105, api.ErrDead)
	w.unchanged("P15.8", was)
	w.open(104)
	w.at("example 4", 1, false)
	w.tick("N6", 105, api.OK)
	w.sent("example 4: the start is 106")
	w.tick("N6", 106, api.OK)
	w.at("example 4", 2, false)
}

func TestExample5(t *testing.T) {
	w := begin(t, 1, 1)
	w.arm(4, api.TrPower, true)
	w.tick("example 5", 102, api.ErrOff)
	w.at("example 5", 0, true)
	w.sent("example 5: nothing is sent")
	if w.r.Count() != 0 {
		t.Errorf("example 5: %d messages are signed", w.r.Count())
	}
	w.crash()
	w.open(102)
	w.at("example 5", 1, false)
	w.sent("example 5", api.MsgProposal, api.MsgVote, api.MsgVote)
	if w.r.Count() != 3 {
		t.Errorf("example 5: %d messages are signed", w.r.Count())
	}
	w.tick("N6", 103, api.OK)
	w.sent("N3: the start is 104")
	w.tick("N6", 104, api.OK)
	w.at("N3", 2, false)
}

// TestSubmit: a transaction that the pool takes waits, and is sent to all; else nothing has changed.
func TestSubmit(t *testing.T) {
	w := begin(t, 1, 1)
	x := w.pay(1, 2, 30, 1, 0)
	w.is("N7", w.n.Submit(x), api.OK)
	if got := w.n.Pool(); !slices.Equal(got, []api.Tx{x}) {
		t.Errorf("N7: %v waits", got)
	}
	if m := w.sent("N7", api.MsgTx); m[0].Tx != x {
		t.Errorf("N7: %v", m[0].Tx)
	}
	was := w.told()
	for what, c := range map[string]struct {
		x    api.Tx
		want api.Errno
	}{
		"it waits":       {x, api.ErrKnown},
		"a gap":          {w.pay(1, 2, 1, 1, 2), api.ErrFar},
		"nobody":         {w.pay(7, 2, 0, 0, 0), api.ErrNobody},
		"poor":           {w.pay(1, 2, 69, 1, 1), api.ErrPoor},
		"cheap":          {w.pay(1, 3, 30, 1, 0), api.ErrCheap},
		"no transaction": {api.Tx{}, api.ErrKind},
		"not sealed":     {api.Tx{Kind: api.TxPay, From: 1, To: 2, Nonce: 1}, api.ErrSeal},
	} {
		was.Signed = w.r.Count() // what was sealed for the test
		w.is("N7: "+what, w.n.Submit(c.x), c.want)
		w.unchanged("N7: "+what, was)
		if c.x.Kind != 0 {
			w.deliver("N5: "+what, api.Msg{Kind: api.MsgTx, Tx: c.x}, c.want)
			w.unchanged("N5: "+what, was)
		}
	}
	y := w.pay(1, 3, 1, 5, 1)
	w.deliver("N5", api.Msg{Kind: api.MsgTx, Tx: y}, api.OK)
	w.sent("N5: what others send is not sent on")
	if got := w.n.Pool(); !slices.Equal(got, []api.Tx{y, x}) {
		t.Errorf("N8: the dearest first: %v", got)
	}
	w.tick("N6", 102, api.OK)
	if b, _, _ := w.n.Block(1); !slices.Equal(b.Txs, []api.Tx{x, y}) || len(w.n.Pool()) != 0 {
		t.Errorf("N2, N3: %v stand in the block, %v wait", b.Txs, w.n.Pool())
	}
	w.is("N7: behind the block", w.n.Submit(x), api.ErrPast)
	for _, a := range w.n.State().Ledger.Accounts {
		want := map[api.Addr]uint64{1: 69, 2: 30, 3: 1} // the fees have come back to who proposed
		if a.Balance != want[a.Addr] {
			t.Errorf("N3: %v", a)
		}
	}
}

// TestAnswer: of each height, however long ago, the header, the certificate, and the council that has decided it: also where the node goes on from a noted state, and where it is dead.
func TestAnswer(t *testing.T) {
	w := begin(t, 4, 1)
	var want []api.LightBlock
	for k := range 27 {
		who := w.n.State().Council
		if k == 5 || k == 9 { // the council changes
			b := w.block(3, w.sealTx(api.Tx{Kind: api.TxBond, From: 2, Amount: 20, Nonce: uint64(k / 9)}))
			w.deliver("N5", decision(b, w.cert(0, b, b.Header.Time+1, 2, 3, 4)), api.OK)
		} else {
			w.grow(1)
		}
		b, c, e := w.n.Block(uint64(k + 1))
		w.is("N8", e, api.OK)
		want = append(want, api.LightBlock{Header: b.Header, Cert: c, Council: who})
	}
	if reflect.DeepEqual(want[3].Council, want[8].Council) || reflect.DeepEqual(want[8].Council.Members[1].Power, want[20].Council.Members[1].Power) {
		t.Fatalf("the council does not change")
	}
	look := func(what string, order ...uint64) {
		t.Helper()
		for _, h := range order {
			got, e := w.n.Answer(h)
			if e != api.OK || !reflect.DeepEqual(got, want[h-1]) {
				t.Fatalf("N8: %s: height %d: error %d, %+v, want %+v", what, h, e, got, want[h-1])
			}
		}
		for _, h := range []uint64{0, 28, api.MaxHeight, math.MaxUint64} {
			if got, e := w.n.Answer(h); e != api.ErrNone || !reflect.DeepEqual(got, api.LightBlock{}) {
				t.Errorf("N8: %s: height %d: error %d", what, h, e)
			}
			if b, c, e := w.n.Block(h); e != api.ErrNone || !reflect.DeepEqual(b, api.Block{}) || !reflect.DeepEqual(c, api.Cert{}) {
				t.Errorf("N8: %s: height %d: error %d", what, h, e)
			}
		}
	}
	var all []uint64
	for h := range uint64(27) {
		all = append(all, h+1)
	}
	look("played", all...)
	w.open(400)
	look("opened", 27, 3, 20, 21, 19, 1, 9)
	look("opened", all...)
	w.open(400)
	w.grow(1)
	b, c, _ := w.n.Block(28)
	who, _ := w.n.Answer(28)
	want = append(want, api.LightBlock{Header: b.Header, Cert: c, Council: who.Council})
	for h := uint64(28); h > 0; h-- {
		if got, e := w.n.Answer(h); e != api.OK || !reflect.DeepEqual(got, want[h-1]) {
			t.Fatalf("N8: height %d: error %d", h, e)
		}
	}
	want = want[:27]
	w.mount(imageWithout(t, w, blockName(28)))
	w.open(400)
	w.arm(1, api.TrFault, false)
	w.tick("N6", 402, api.ErrFault)
	look("dead", all...)
	w.arm(1, api.TrPower, false)
	w.is("Append", w.d.Append("x", nil), api.ErrOff)
	if _, e := w.n.Answer(3); e != api.ErrOff {
		t.Errorf("N8: without power: error %d", e)
	}
	if _, _, e := w.n.Block(3); e != api.ErrOff {
		t.Errorf("N8: without power: error %d", e)
	}
}

// imageWithout is what the disk holds, without a file; the disk is off behind it.
func imageWithout(t *testing.T, w *world, file string) api.Image {
	t.Helper()
	im, e := w.d.Crash(nil, 0)
	w.is("Crash", e, api.OK)
	im.Files = slices.DeleteFunc(im.Files, func(f api.File) bool { return f.Name == file })
	return im
}

// TestAnswerSpoilt: what can't be read of one height is that height's alone, as long as the node has seen the others.
func TestAnswerSpoilt(t *testing.T) {
	w := begin(t, 4, 1)
	w.grow(14)
	good, _ := w.n.Answer(9)
	w.is("Replace", w.d.Replace(blockName(3), []byte("x")), api.OK)
	if got, e := w.n.Answer(3); e != api.ErrSpoilt || !reflect.DeepEqual(got, api.LightBlock{}) {
		t.Errorf("N8: error %d", e)
	}
	if got, e := w.n.Answer(9); e != api.OK || !reflect.DeepEqual(got, good) {
		t.Errorf("N8: error %d", e)
	}
	w.open(200) // from the state behind 8, which knows the councils from 5 on
	for h, want := range map[uint64]api.Errno{1: api.OK, 2: api.OK, 3: api.ErrSpoilt, 4: api.ErrSpoilt, 5: api.OK, 9: api.OK, 14: api.OK} {
		if _, e := w.n.Answer(h); e != want {
			t.Errorf("N8: height %d: error %d, want %d", h, e, want)
		}
	}
}

// TestAnswerForged: where a block ahead of the noted state can be read, but is none of the chain, what hangs on it can't be told.
func TestAnswerForged(t *testing.T) {
	w := begin(t, 4, 1)
	w.grow(9)
	b, _, _ := w.n.Block(3)
	b.Header.Time++
	w.putBlock(b, w.cert(0, b, 300, 2, 3, 4))
	w.open(200)
	for h, want := range map[uint64]api.Errno{1: api.OK, 3: api.OK, 4: api.ErrSpoilt, 5: api.OK, 9: api.OK} {
		if _, e := w.n.Answer(h); e != want {
			t.Errorf("N8: height %d: error %d, want %d", h, e, want)
		}
	}
}

// TestStateIsPlayed: P15.2: the state is what the blocks make from the beginning on, and each has its certificate.
func TestStateIsPlayed(t *testing.T) {
	w := begin(t, 4, 1)
	w.grow(19)
	w.isPlayed("P15.2")
	w.open(200)
	w.isPlayed("P15.2: opened")
}

func (w *world) isPlayed(what string) {
	w.t.Helper()
	st, e := chain.Begin(w.g)
	w.is("Begin", e, api.OK)
	for h := uint64(1); h <= w.n.State().Height; h++ {
		b, c, e := w.n.Block(h)
		w.is(what+": Block", e, api.OK)
		w.is(what+": Valid", chain.Valid(st, w.r, b), api.OK)
		w.is(what+": CheckCert", chain.CheckCert(st.Council, w.r, w.g.Chain, c), api.OK)
		if c.Id != idOf(b) || c.Height != h {
			w.t.Fatalf("%s: a certificate of another block at %d", what, h)
		}
		st, e = chain.Apply(st, w.r, b)
		w.is(what+": Apply", e, api.OK)
	}
	if got := w.n.State(); !reflect.DeepEqual(got, st) {
		w.t.Fatalf("%s: %+v, want %+v", what, got, st)
	}
}
