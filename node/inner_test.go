package node

import (
	"container/heap"
	"errors"
	"math/rand"
	"slices"
	"testing"

	"assent/api"
	"assent/disk"
	"assent/seal"
	"assent/wire"
)

// TestWaits: they come by rising time, of equal ones the one that was set first, and some are taken out of the midst.
func TestWaits(t *testing.T) {
	r := rand.New(rand.NewSource(150))
	for range 300 {
		s := &stage{}
		var model []wait // as they were set
		for clock := uint64(0); clock < 12; clock++ {
			for range r.Intn(6) {
				x := wait{time: clock + uint64(r.Intn(6)), number: s.set, step: 1 + r.Intn(3), round: r.Intn(3)}
				s.addWait(x.step, x.round, x.time)
				model = append(model, x)
			}
			slices.SortStableFunc(model, func(x, y wait) int { return int(x.time) - int(y.time) })
			if r.Intn(2) == 0 {
				step, round := 1+r.Intn(3), r.Intn(3)
				s.waits.drop(step, round)
				at := slices.IndexFunc(model, func(x wait) bool { return x.step == step && x.round == round })
				if at >= 0 {
					model = slices.Delete(model, at, at+1)
				}
			}
			var want []wait
			for len(model) > 0 && model[0].time <= clock {
				want, model = append(want, model[0]), model[1:]
			}
			if got := s.waits.takeDue(clock); !slices.Equal(got, want) {
				t.Fatalf("N6: %v, want %v", got, want)
			}
			if len(s.waits) != len(model) {
				t.Fatalf("N6: %d waits are left, want %d", len(s.waits), len(model))
			}
		}
	}
	w := &waits{}
	heap.Init(w)
	w.drop(1, 0)
	if got := w.takeDue(api.MaxTime); got != nil {
		t.Errorf("N6: %v", got)
	}
}

// TestLastHeight: a node whose chain is at MaxHeight has no engine: it takes nothing of a height, begins nothing, sends nothing again, and tells the zero View. No disk holds so many blocks, so the state is put there.
func TestLastHeight(t *testing.T) {
	g := api.Genesis{Chain: "c", Accounts: []api.Account{{Addr: 1, Balance: 9, Bond: 10}}, Params: api.Params{MinBond: 1, Seats: 1, Period: 9, Age: 1, MaxTxs: 1, Propose: 1, Votes: 1, Resend: 1, Trusting: 1}}
	d, _ := disk.New(1 << 20)
	r := seal.New()
	s, _ := r.Enter(1)
	n, e := Open(g, d, r, s, 5)
	if e != api.OK || n.Tick(5) != api.OK || n.State().Height != 1 {
		t.Fatalf("N4: error %d, height %d", e, n.State().Height)
	}
	n.Out()
	b, c, _ := n.Block(1)
	n.state.Height = api.MaxHeight
	calls := d.Calls()
	n.enter(5)
	if n.View() != (api.View{}) {
		t.Errorf("N8: %+v", n.View())
	}
	for now := uint64(5); now < 20; now++ {
		if e := n.Tick(now); e != api.OK {
			t.Errorf("N6: error %d", e)
		}
	}
	b.Header.Height, c.Height = api.MaxHeight, api.MaxHeight
	c.Id, _ = wire.BlockId(b.Header)
	v := api.Vote{Kind: api.Prevote, Height: api.MaxHeight, Id: c.Id, From: 1}
	p := api.Proposal{Height: api.MaxHeight, ValidRound: -1, Id: c.Id, From: 1}
	for _, m := range []api.Msg{
		{Kind: api.MsgDecision, Block: b, Cert: c},
		{Kind: api.MsgVote, Votes: []api.Vote{v}},
		{Kind: api.MsgPolka, Block: b, Votes: []api.Vote{v}},
		{Kind: api.MsgProposal, Proposal: p, Block: b},
	} {
		form, e := wire.EncodeMsg(m)
		if e != api.OK {
			t.Fatalf("EncodeMsg: error %d", e)
		}
		if e := n.Deliver(0, form); e != api.ErrSource {
			t.Errorf("N5: kind %d: error %d", m.Kind, e)
		}
	}
	if len(n.Out()) != 0 || d.Calls() != calls || n.Clock() != 19 {
		t.Errorf("N6: something is done at the last height")
	}
	status, _ := wire.EncodeMsg(api.Msg{Kind: api.MsgStatus, Height: 1})
	if e := n.Deliver(2, status); e != api.OK || len(n.Out()) != 1 {
		t.Errorf("N5: who is behind is helped on: error %d", e)
	}
	n.goOn(30)
	if n.Clock() != 19 || n.View() != (api.View{}) || d.Calls() != calls {
		t.Errorf("N4: an opening at the last height")
	}
}

// TestCaught: whatever has the work given up, the node is dead; the package's own error tells its number, also wrapped.
func TestCaught(t *testing.T) {
	for what, c := range map[string]struct {
		cause any
		want  api.Errno
		dead  bool
	}{
		"nothing":       {nil, api.ErrSource, false},
		"own":           {refused{api.ErrFull}, api.ErrFull, true},
		"wrapped":       {errors.Join(errors.New("x"), refused{api.ErrOff}), api.ErrOff, true},
		"another error": {errors.New("x"), api.ErrDead, true},
		"no error":      {"x", api.ErrDead, true},
	} {
		n := &Node{}
		if got := n.caught(c.cause, api.ErrSource); got != c.want || n.dead != c.dead {
			t.Errorf("%s: error %d, want %d; dead: %v", what, got, c.want, n.dead)
		}
	}
	if got := (refused{api.ErrOff}).Error(); got != "refused: error 63" {
		t.Errorf("%s", got)
	}
}

// TestSettled: evidence that a block has held, or that is too old, waits no more. Nothing else tells how much waits.
func TestSettled(t *testing.T) {
	g := api.Genesis{Chain: "c", Accounts: []api.Account{{Addr: 1, Bond: 100}, {Addr: 2, Bond: 1}}, Params: api.Params{MinBond: 1, Seats: 2, Period: 9, Age: 2, MaxTxs: 1, Propose: 1, Votes: 1, Resend: 1, Trusting: 1}}
	d, _ := disk.New(1 << 20)
	r := seal.New()
	s, _ := r.Enter(1)
	liar, _ := r.Enter(2)
	n, e := Open(g, d, r, s, 5)
	if e != api.OK {
		t.Fatalf("N4: error %d", e)
	}
	for _, id := range []api.Hash{{}, {1}} {
		v := api.Vote{Kind: api.Prevote, Height: 1, Id: id, From: 2}
		msg, _ := wire.VoteBytes("c", v)
		v.Seal, _ = liar.Sign(msg)
		form, _ := wire.EncodeMsg(api.Msg{Kind: api.MsgVote, Votes: []api.Vote{v}})
		if e := n.Deliver(1, form); e != api.OK {
			t.Fatalf("N5: error %d", e)
		}
	}
	want := []int{0, 1, 0} // behind block 1 it waits, block 2 holds it
	for now := uint64(5); n.State().Height < 2 && now < 50; now++ {
		if got := n.misdeeds.Len(); got != want[n.State().Height] {
			t.Errorf("N3: %d pieces wait at %d", got, n.State().Height)
		}
		if e := n.Tick(now); e != api.OK {
			t.Fatalf("N6: error %d", e)
		}
	}
	if n.misdeeds.Len() != 0 || len(n.State().Punished) != 1 {
		t.Errorf("N3: %d pieces wait, %v are punished", n.misdeeds.Len(), n.State().Punished)
	}
}
