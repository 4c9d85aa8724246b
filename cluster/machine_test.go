package cluster_test

import (
	"math"
	"reflect"
	"slices"
	"testing"

	"assent/api"
	"assent/wal"
	"assent/wire"
)

func TestTick(t *testing.T) {
	w := begin(t, four(), 1)
	for _, node := range []int{math.MinInt, -1, 3, 4, math.MaxInt} {
		w.is("C4", w.c.Tick(node, 1), api.ErrNode)
	}
	w.tick(1, 0)
	w.tick(1, 1)
	if w.clock(0) != 7 || w.clock(1) != 8 || w.clock(2) != 7 || w.view(1).Step != api.StepNew {
		t.Errorf("C4: %d, %d, %d", w.clock(0), w.clock(1), w.clock(2))
	}
	w.tick(1, 1)
	if w.clock(1) != 9 || w.view(1).Step != api.StepPropose || w.view(0).Step != api.StepNew {
		t.Errorf("C4: %d, %+v", w.clock(1), w.view(1))
	}
	for _, x := range [][2]uint64{{api.MaxTime - 20, api.MaxTime - 11}, {10, api.MaxTime - 1}, {2, api.MaxTime}, {1, api.MaxTime}, {0, api.MaxTime}, {math.MaxUint64, api.MaxTime}} {
		if w.tick(1, x[0]); w.clock(1) != x[1] {
			t.Errorf("C4: behind %d the clock is %d", x[0], w.clock(1))
		}
	}
	w.tick(2, math.MaxUint64)
	if w.clock(2) != api.MaxTime || w.clock(0) != 7 {
		t.Errorf("C4: %d, %d", w.clock(2), w.clock(0))
	}
}

// TestTickNothing: a clock that goes on by nothing is told to its node all the same.
func TestTickNothing(t *testing.T) {
	g := four()
	g.Params.Pause = 0
	w := begin(t, g, 1)
	w.tick(0, 0)
	if w.view(0).Step == api.StepNew || w.clock(0) != 7 || w.c.Pending() == 0 {
		t.Errorf("C4: %+v at %d, %d under way", w.view(0), w.clock(0), w.c.Pending())
	}
}

// TestTickDead: a dead node's clock goes on, and nothing else of it.
func TestTickDead(t *testing.T) {
	w := begin(t, four(), 1)
	w.is("C5", w.c.Arm(0, api.Trouble{At: 1, Kind: api.TrFault}), api.OK)
	w.tick(0, 2)
	if !w.c.Dead(0) || w.clock(0) != 9 || w.c.Pending() != 0 {
		t.Fatalf("C4: dead %v at %d", w.c.Dead(0), w.clock(0))
	}
	w.tick(0, 5)
	w.rounds(3)
	if !w.c.Dead(0) || w.clock(0) != 17 || w.view(0).Step != api.StepNew {
		t.Errorf("C4: dead %v at %d", w.c.Dead(0), w.clock(0))
	}
	w.is("C5", w.c.Restart(0, nil, 0), api.OK)
	if w.clock(0) != 17 || w.view(0).Step != api.StepNew {
		t.Errorf("C5: it is opened at %d", w.clock(0))
	}
	w.tick(0, 1)
	if w.view(0).Step != api.StepNew {
		t.Errorf("C5: it begins Pause ticks behind its clock: %+v", w.view(0))
	}
	w.tick(0, 1)
	if w.view(0).Step == api.StepNew {
		t.Errorf("C5: it does not begin Pause ticks behind its clock")
	}
}

func TestArm(t *testing.T) {
	w := begin(t, four(), 1)
	for _, node := range []int{math.MinInt, -1, 3, 4, math.MaxInt} {
		w.is("C5", w.c.Arm(node, api.Trouble{At: 1, Kind: api.TrPower}), api.ErrNode)
		w.is("C5", w.c.Arm(node, api.Trouble{}), api.ErrNode)
	}
	for _, x := range []api.Trouble{{}, {At: 1}, {At: -1, Kind: api.TrPower}, {At: 1, Kind: 3}, {At: 1, Kind: api.TrFault, Done: true}, {At: math.MaxInt, Kind: api.TrFault}} {
		w.is("C5", w.c.Arm(0, x), api.ErrArg)
	}
	w.is("C5", w.c.Arm(0, api.Trouble{At: 3, Kind: api.TrPower}), api.OK)
	for n := 0; !w.c.Dead(0); n++ {
		if n > 20 {
			t.Fatalf("C5: no trouble befalls it")
		}
		w.rounds(1)
	}
	if w.c.Dead(1) || w.c.Dead(2) {
		t.Errorf("C5: a trouble has befallen another one")
	}
	w.is("C5: without power", w.c.Arm(0, api.Trouble{At: 1, Kind: api.TrPower}), api.ErrOff)
	w.is("C5: without power, ahead of all else", w.c.Arm(0, api.Trouble{}), api.ErrOff)
	w.is("C5", w.c.Restart(0, nil, 0), api.OK)
	w.is("C5", w.c.Arm(0, api.Trouble{At: 2, Kind: api.TrPower}), api.OK)
	w.is("C5", w.c.Restart(0, nil, 0), api.OK)
	w.rounds(30)
	if w.c.Dead(0) {
		t.Errorf("C5: the trouble of a disk that is no more")
	}
}

// TestDies is example 4: a node dies as soon as it writes, is opened anew, and is at the height that it had.
func TestDies(t *testing.T) {
	w := begin(t, four(), 0)
	w.rounds(10)
	w.is("C5", w.c.Arm(1, api.Trouble{At: 1, Kind: api.TrPower}), api.OK)
	was := w.state(1)
	n := 0
	for ; !w.c.Dead(1); n++ {
		w.rounds(1)
	}
	if n > 5 || !reflect.DeepEqual(w.state(1), was) {
		t.Errorf("example 4: it lives for %d rounds more, and is at %d", n, w.state(1).Height)
	}
	if _, _, e := w.c.Block(1, 1); e != api.ErrOff {
		t.Errorf("C9: a disk without power: error %d", e)
	}
	way := w.way()
	w.is("C5", w.c.Restart(1, []int{3, 3, 3}, 9), api.OK)
	if w.c.Dead(1) || !reflect.DeepEqual(w.state(1), was) {
		t.Errorf("example 4: dead %v, at %d", w.c.Dead(1), w.state(1).Height)
	}
	if got := w.way(); !reflect.DeepEqual(got[:len(way)], way) {
		t.Errorf("C5: what was under way is not any more")
	}
	w.rounds(40)
	if w.state(1).Height <= was.Height+2 {
		t.Errorf("W5: it is at %d", w.state(1).Height)
	}
}

// TestRestartAlive: a node that is opened anew where nothing was lost stands where it stood, and sends again what it has signed; what waited in its pool is gone.
func TestRestartAlive(t *testing.T) {
	w := begin(t, four(), 1)
	w.rounds(10)
	for w.view(0).Step != api.StepPrecommit {
		w.rounds(1)
	}
	w.is("C6", w.c.Submit(0, api.Tx{Kind: api.TxPay, From: 1, To: 9, Amount: 1}), api.OK)
	st, view, now, signed := w.state(0), w.view(0), w.clock(0), len(w.c.Signed(1))
	w.clear()
	w.is("C5", w.c.Restart(0, nil, 0), api.OK)
	if !reflect.DeepEqual(w.state(0), st) || w.view(0) != view || w.clock(0) != now || len(w.c.Signed(1)) != signed {
		t.Errorf("W9: %+v, it was %+v", w.view(0), view)
	}
	if txs, e := w.c.Pool(0); e != api.OK || len(txs) != 0 {
		t.Errorf("C5: %d wait, error %d", len(txs), e)
	}
	if w.c.Pending() == 0 {
		t.Errorf("C5: what is sealed in playing is not collected")
	}
	for _, x := range w.way() {
		if x.from != 0 || x.to != 1 && x.to != 2 {
			t.Errorf("C5: from %d to %d", x.from, x.to)
		}
	}
}

// TestRestartKeep: what is kept of a disk is what Crash is told to keep, spoilt by junk.
func TestRestartKeep(t *testing.T) {
	frame, _ := wal.Frame([]byte{api.InStart, 9})
	for _, x := range []struct {
		keep []int
		junk byte
		step int
	}{{nil, 0, api.StepNew}, {[]int{}, 0, api.StepNew}, {[]int{0, 99}, 0, api.StepNew}, {[]int{-1}, 0, api.StepNew}, {[]int{len(frame) - 1}, 0, api.StepNew}, {[]int{len(frame)}, 0, api.StepPrevote}, {[]int{99}, 0, api.StepPrevote}, {[]int{math.MaxInt}, 0, api.StepPrevote}, {[]int{99}, 1, api.StepNew}, {[]int{99}, 255, api.StepNew}} {
		w := begin(t, four(), 1)
		w.is("C5", w.c.Arm(0, api.Trouble{At: 2, Kind: api.TrPower}), api.OK) // the first record is written, but not synced
		w.tick(0, 2)
		if !w.c.Dead(0) || len(w.c.Signed(1)) > 0 {
			t.Fatalf("C5: it does not die")
		}
		was := slices.Clone(x.keep)
		w.is("C5", w.c.Restart(0, x.keep, x.junk), api.OK)
		if got := w.view(0).Step; got != x.step || !slices.Equal(x.keep, was) {
			t.Errorf("C5: %v, %d: the step is %d, want %d", x.keep, x.junk, got, x.step)
		}
	}
}

func TestRestartRefuses(t *testing.T) {
	w := begin(t, four(), 1)
	for _, node := range []int{math.MinInt, -1, 3, 4, math.MaxInt} {
		w.is("C5", w.c.Restart(node, []int{1}, 1), api.ErrNode)
	}
	for range 3 { // one behind the other
		w.is("C5", w.c.Restart(0, nil, 0), api.OK)
	}
}

// fullDisk is a cluster of one node, and one liar who fills its disk: the height's beginning can be written down, and the block that is to be proposed then can't.
func fullDisk(t *testing.T) *pair {
	t.Helper()
	p := newPair(t, genesis(10, 10), upTo(2), 1)
	const log = "wal-0000000000000001"
	room := func() int {
		n, _, _ := p.m.disks[0].Size(log)
		return 1<<24 - n
	}
	give := func(m api.Msg) {
		p.is("C7", p.lie(1, 0, m), api.OK)
		p.deliver(0, false)
	}
	b := api.Block{Header: api.Header{Chain: name, Height: 1, Proposer: 2}}
	for range 1000 {
		b.Txs = append(b.Txs, api.Tx{Kind: api.TxPay, From: math.MaxUint64, To: math.MaxUint64, Amount: api.MaxSupply, Fee: api.MaxSupply, Nonce: math.MaxUint64})
	}
	for room() > 80000 {
		b.Header.Time++
		give(api.Msg{Kind: api.MsgProposal, Proposal: api.Proposal{Height: 1, Round: 1, ValidRound: -1, Id: idOf(b), From: 2}, Block: b})
	}
	b.Txs = b.Txs[:100]
	for room() > 9000 {
		b.Header.Time++
		give(api.Msg{Kind: api.MsgProposal, Proposal: api.Proposal{Height: 1, Round: 1, ValidRound: -1, Id: idOf(b), From: 2}, Block: b})
	}
	v := api.Vote{Kind: api.Precommit, Height: 1, Id: api.Hash{1}, From: 2}
	for room() > 150 {
		v.Time++
		give(voted(v))
	}
	p.lookAll(p.rand())
	return p
}

// TestRestartRefused: where Open is refused that is Restart's answer, and there is no node till the next Restart: it is dead, and answers as a nil node does.
func TestRestartRefused(t *testing.T) {
	t.Parallel()
	p := fullDisk(t)
	if p.c.Dead(0) {
		t.Fatalf("it is dead ahead of time")
	}
	p.tick(0, 2) // it is its turn
	if !p.c.Dead(0) || p.view(0).Step != api.StepPropose || p.c.Pending() != 0 {
		t.Fatalf("G7: dead %v, %+v", p.c.Dead(0), p.view(0))
	}
	heard := p.heard(0, 1)
	for range 2 {
		p.is("C5", p.restart(0, nil, 0), api.ErrFull)
		p.lookAll(p.rand())
		if !p.c.Dead(0) || !reflect.DeepEqual(p.state(0), api.State{}) || p.view(0) != (api.View{}) {
			t.Errorf("C5: dead %v, %+v", p.c.Dead(0), p.view(0))
		}
		if txs, e := p.c.Pool(0); e != api.OK || txs != nil {
			t.Errorf("C5: %v, error %d", txs, e)
		}
		for _, h := range []uint64{0, 1, 2, math.MaxUint64} {
			b, x, e := p.c.Block(0, h)
			p.is("C5", e, api.ErrNil)
			l, e := p.c.Light(0, h)
			p.is("C5", e, api.ErrNil)
			if !reflect.DeepEqual(b, api.Block{}) || !reflect.DeepEqual(x, api.Cert{}) || !reflect.DeepEqual(l, api.LightBlock{}) {
				t.Errorf("G2: something beside an error")
			}
		}
		if got := p.heard(0, 1); len(got) < 2 || !slices.Equal(got, heard) {
			t.Errorf("C10: its disk shows %d votes, it was %d", len(got), len(heard))
		}
	}
	now, y := p.clock(0), api.Tx{Kind: api.TxPay, From: 1, To: 9, Amount: 1}
	p.submit(0, y)
	if p.counts[api.ErrNil] == 0 || len(p.c.Signed(1)) != 1 {
		t.Errorf("C6: of no node: %d signed", len(p.c.Signed(1)))
	}
	p.is("C7", p.lie(1, -1, status(1)), api.OK)
	p.deliver(0, true)
	p.deliver(0, false)
	p.tick(0, 5)
	p.rounds(3)
	if p.clock(0) != now+8 || p.c.Pending() != 0 || !p.c.Dead(0) {
		t.Errorf("C4: the clock is %d, %d under way", p.clock(0), p.c.Pending())
	}
	p.arm(0, api.Trouble{At: 1, Kind: api.TrPower})
	p.arm(0, api.Trouble{})
	if _, e := p.c.Blame(); e != api.ErrNone {
		t.Errorf("C11: error %d", e)
	}
}

// TestDiskSize: a disk has room for 2^24 bytes, also behind a Restart, and for no byte more.
func TestDiskSize(t *testing.T) {
	t.Parallel()
	p := fullDisk(t)
	used := 1<<24 - sizeOf(p)
	v := api.Vote{Kind: api.Prevote, Height: 1, Id: api.Hash{2}, From: 2}
	rec, _ := wire.EncodeInput(api.Input{Kind: api.InVote, Now: 7, Votes: []api.Vote{v}})
	if frame, _ := wal.Frame(rec); len(frame) > used {
		t.Fatalf("there is no room for a vote: %d", used)
	}
	p.is("C5", p.restart(0, nil, 0), api.OK)
	p.is("C7", p.lie(1, 0, voted(v)), api.OK)
	p.deliver(0, false)
	if p.c.Dead(0) || len(p.c.Signed(1)) != 0 {
		t.Errorf("C5: there is room for a vote")
	}
	v.Id[0]++
	for n := 0; !p.c.Dead(0); n++ {
		if n > 3 {
			t.Fatalf("C5: its disk is never full")
		}
		v.Id[0]++
		p.is("C7", p.lie(1, 0, voted(v)), api.OK)
		p.deliver(0, false)
	}
}

func sizeOf(p *pair) int {
	n, _, _ := p.m.disks[0].Size("wal-0000000000000001")
	return n
}

// TestRoundsByHand: a round is the delivery of all that is under way, the oldest first, and then a tick of each.
func TestRoundsByHand(t *testing.T) {
	one, two := begin(t, four(), 1), begin(t, four(), 1)
	for n := range 80 {
		one.rounds(1)
		for range two.c.Pending() {
			two.is("C3", two.c.Deliver(0, false), api.OK)
		}
		for k := range 3 {
			two.tick(k, 1)
		}
		if !reflect.DeepEqual(one.way(), two.way()) {
			t.Fatalf("C8: round %d: %v, want %v", n, kinds(one.way()), kinds(two.way()))
		}
	}
	three := begin(t, four(), 1)
	three.rounds(50)
	three.rounds(0)
	three.rounds(30)
	if !reflect.DeepEqual(one.way(), three.way()) || one.state(0).Height < 5 {
		t.Errorf("C8: Rounds of many is another thing than many Rounds of one")
	}
	for k := range 3 {
		if !reflect.DeepEqual(one.state(k), two.state(k)) || one.view(k) != two.view(k) || !reflect.DeepEqual(one.state(k), three.state(k)) || one.clock(k) != 87 {
			t.Errorf("C8: node %d", k)
		}
	}
}

func TestRoundsEdges(t *testing.T) {
	w := begin(t, four(), 1)
	w.tick(0, 2)
	was := w.way()
	for _, n := range []int{math.MinInt, -1, 65537, math.MaxInt} {
		w.is("C8", w.c.Rounds(n), api.ErrArg)
	}
	w.rounds(0)
	if !reflect.DeepEqual(w.way(), was) || w.clock(0) != 9 || w.clock(1) != 7 {
		t.Errorf("C8: something has changed")
	}
	w = beginWith(t, genesis(10), []api.Addr{2}, 0) // it looks on, and nobody votes
	w.rounds(65536)
	if w.clock(0) != 7+65536 || w.state(0).Height != 0 {
		t.Errorf("C8: %d", w.clock(0))
	}
}

// TestRoundsWait: what comes while a round is gone through waits for the next one.
func TestRoundsWait(t *testing.T) {
	w := begin(t, four(), 1)
	w.rounds(2)
	if got := w.way(); len(got) != 4 { // node 0 has begun and proposed, in its tick
		t.Fatalf("C8: %v", kinds(got))
	}
	w.rounds(1)
	for _, x := range w.way() { // prevotes for what was proposed; the precommits come of them
		if x.m.Kind == api.MsgVote && x.m.Votes[0].Kind == api.Precommit {
			t.Errorf("C8: %d has precommitted in the round in which the prevotes were sent", x.from)
		}
	}
}

// TestNoNode: where an honest one is wanted, a liar and a place that is not there are refused.
func TestNoNode(t *testing.T) {
	w := begin(t, four(), 1)
	w.rounds(30)
	for _, node := range places {
		if node >= 0 && node < 3 {
			continue
		}
		st, e := w.c.State(node)
		w.is("C9", e, api.ErrNode)
		v, e := w.c.View(node)
		w.is("C9", e, api.ErrNode)
		b, x, e := w.c.Block(node, 1)
		w.is("C9", e, api.ErrNode)
		now, e := w.c.Clock(node)
		w.is("C9", e, api.ErrNode)
		txs, e := w.c.Pool(node)
		w.is("C9", e, api.ErrNode)
		l, e := w.c.Light(node, 1)
		w.is("C9", e, api.ErrNode)
		votes, e := w.c.Heard(node, 1)
		w.is("C10", e, api.ErrNode)
		if !reflect.DeepEqual(st, api.State{}) || v != (api.View{}) || !reflect.DeepEqual(b, api.Block{}) || !reflect.DeepEqual(x, api.Cert{}) || now != 0 || txs != nil || !reflect.DeepEqual(l, api.LightBlock{}) || votes != nil {
			t.Errorf("G2: %d: something beside an error", node)
		}
		if w.c.Dead(node) {
			t.Errorf("C9: %d is dead", node)
		}
	}
}

// TestTells: State, View, Block, Pool and Light are what a node tells that takes the same; so is what the book says.
func TestTells(t *testing.T) {
	p := newPair(t, four(), upTo(4), 1)
	for n := range 12 {
		p.submit(n%3, api.Tx{Kind: api.TxPay, From: 2, To: 3, Amount: 1, Fee: uint64(n), Nonce: uint64(n)})
		p.rounds(5)
		p.lookAll(p.rand())
	}
	for k := range 3 {
		if p.state(k).Height < 5 {
			t.Errorf("W5: node %d is at %d", k, p.state(k).Height)
		}
		_, _, e := p.c.Block(k, p.state(k).Height+1)
		p.is("C9", e, api.ErrNone)
		_, e = p.c.Light(k, 0)
		p.is("C9", e, api.ErrNone)
	}
	if len(p.c.Signed(1)) == 0 || len(p.c.Signed(4)) != 0 || p.c.Signed(77) != nil {
		t.Errorf("C9: who has signed")
	}
}

// TestDeadFaults: a node whose disk has power tells its blocks though it is dead.
func TestDeadFaults(t *testing.T) {
	w := begin(t, four(), 1)
	w.rounds(20)
	w.is("C5", w.c.Arm(2, api.Trouble{At: 1, Kind: api.TrFault}), api.OK)
	w.rounds(6)
	if !w.c.Dead(2) || w.c.Dead(0) {
		t.Fatalf("C5: no trouble befalls it")
	}
	b, _ := w.block(2, 1)
	want, _ := w.block(0, 1)
	l, e := w.c.Light(2, 1)
	if w.is("C9", e, api.OK); !reflect.DeepEqual(b, want) || l.Header != b.Header {
		t.Errorf("C9: another block")
	}
	w.is("C6", w.c.Submit(2, api.Tx{Kind: api.TxPay, From: 1, To: 9, Amount: 1}), api.ErrDead)
}
