package cluster_test

import (
	"reflect"
	"testing"

	"assent/api"
)

// kinds are those of the messages, one behind the other.
func kinds(all []message) (list []int) {
	for _, x := range all {
		list = append(list, x.m.Kind)
	}
	return list
}

// TestNothingUnderWay is example 2.
func TestNothingUnderWay(t *testing.T) {
	w := begin(t, four(), 1)
	for _, at := range places {
		w.is("C3", w.c.Deliver(at, false), api.ErrArg)
		w.is("C3", w.c.Deliver(at, true), api.ErrArg)
		w.is("C3", w.c.Drop(at), api.ErrArg)
		from, to, b, e := w.c.Peek(at)
		if w.is("C2", e, api.ErrArg); from != 0 || to != 0 || b != nil {
			t.Errorf("G2: %d, %d, %v beside an error", from, to, b)
		}
	}
}

// TestBroadcast is example 3: what node 0 sends is under way to 1 and 2, by rising place, and not to 3, which lies.
func TestBroadcast(t *testing.T) {
	w := begin(t, four(), 1)
	w.tick(0, 2)
	all := w.way()
	if got := kinds(all); !reflect.DeepEqual(got, []int{api.MsgProposal, api.MsgProposal, api.MsgVote, api.MsgVote}) {
		t.Fatalf("example 3: %v", got)
	}
	for k, x := range all {
		if x.from != 0 || x.to != 1+k%2 || !reflect.DeepEqual(x.m, all[k-k%2].m) {
			t.Errorf("C3: at %d: from %d to %d", k, x.from, x.to)
		}
	}
	// From the one in the middle it goes to those on both sides.
	w = begin(t, four(), 0)
	for by := uint64(0); w.c.Pending() == 0; by++ {
		w.tick(1, by)
	}
	for k, x := range w.way() {
		if x.from != 1 || x.to != []int{0, 2, 3}[k%3] {
			t.Errorf("C3: at %d: from %d to %d", k, x.from, x.to)
		}
	}
}

// TestPlaces: a message is taken off at its own place, and the others stay in their order.
func TestPlaces(t *testing.T) {
	w := begin(t, four(), 1)
	w.tick(0, 2)
	was := w.way()
	w.is("C2", w.c.Drop(4), api.ErrArg)
	w.is("C2", w.c.Drop(-1), api.ErrArg)
	w.is("C3", w.c.Drop(1), api.OK)
	if got := w.way(); !reflect.DeepEqual(got, []message{was[0], was[2], was[3]}) {
		t.Errorf("C3: %v", kinds(got))
	}
	w.is("C3", w.c.Drop(2), api.OK)
	if got := w.way(); !reflect.DeepEqual(got, []message{was[0], was[2]}) {
		t.Errorf("C3: %v", kinds(got))
	}
	if w.view(1).Step != api.StepNew || len(w.heard(1, 1)) > 0 {
		t.Errorf("C3: what is dropped is delivered")
	}
	w.is("C3", w.c.Deliver(1, true), api.OK) // the vote of 1 for node 1
	if got := w.way(); !reflect.DeepEqual(got, []message{was[0], was[2]}) || len(w.heard(1, 1)) != 1 {
		t.Errorf("C3: %v, %d heard", kinds(got), len(w.heard(1, 1)))
	}
	w.is("C3", w.c.Deliver(1, false), api.OK)
	if got := w.way(); !reflect.DeepEqual(got, []message{was[0]}) || len(w.heard(1, 1)) != 1 || len(w.heard(2, 1)) != 0 {
		t.Errorf("C3: %v, %d heard", kinds(got), len(w.heard(1, 1)))
	}
}

// TestDelivered: what a node sends when it is handed a message is put behind what is under way.
func TestDelivered(t *testing.T) {
	for _, keep := range []bool{false, true} {
		w := begin(t, four(), 1)
		w.tick(0, 2)
		w.clear()
		w.tick(1, 2)
		w.tick(2, 2)
		w.clear()
		w.is("C5", w.c.Restart(0, nil, 0), api.OK) // it sends its proposal again
		was := w.way()
		w.is("C3", w.c.Deliver(0, keep), api.OK)
		got := w.way()
		rest := was
		if !keep {
			rest = was[1:]
		}
		if len(got) != len(rest)+2 || !reflect.DeepEqual(got[:len(rest)], rest) {
			t.Fatalf("C3: %v behind %v", kinds(got), kinds(was))
		}
		for k, x := range got[len(rest):] { // a prevote for it
			if x.from != 1 || x.to != 2*k || x.m.Kind != api.MsgVote || x.m.Votes[0].Id != was[0].m.Proposal.Id {
				t.Errorf("C3: %+v", x)
			}
		}
	}
}

// TestAnswers: what is sent to one node is under way to that one alone; to a liar, to nobody.
func TestAnswers(t *testing.T) {
	w := begin(t, four(), 1)
	w.rounds(20)
	w.clear()
	w.is("C7", w.c.Lie(3, 0, status(1)), api.OK)
	w.is("C3", w.c.Deliver(0, false), api.OK)
	if got := w.way(); len(got) != 0 {
		t.Errorf("C3: what is sent to a liar is under way: %v", kinds(got))
	}
	// Node 2 falls behind, and asks all where it stands: both of the others send it what was decided, and nobody else gets it.
	w = begin(t, four(), 0)
	for range 40 {
		for at := w.c.Pending() - 1; at >= 0; at-- {
			if _, to, _, _ := w.c.Peek(at); to == 2 {
				w.is("C3", w.c.Drop(at), api.OK)
			}
		}
		w.rounds(1)
	}
	if w.state(2).Height != 0 || w.state(0).Height < 3 {
		t.Fatalf("node 2 is at %d, node 0 at %d", w.state(2).Height, w.state(0).Height)
	}
	w.clear()
	w.tick(2, 5)
	asked := w.way()
	for len(asked) > 0 && asked[0].m.Kind != api.MsgStatus {
		w.is("C3", w.c.Drop(0), api.OK)
		asked = w.way()
	}
	was := len(asked)
	w.is("C3", w.c.Deliver(1, false), api.OK) // to 1
	got := w.way()
	if len(got) != was {
		t.Fatalf("C3: %v", kinds(got))
	}
	if x := got[was-1]; x.from != 1 || x.to != 2 || x.m.Kind != api.MsgDecision || x.m.Block.Header.Height != 1 {
		t.Errorf("C3: %+v", x)
	}
}

// fillWay puts messages under way that nobody minds, till so many are.
func (w *world) fillWay(many int) {
	w.t.Helper()
	for w.c.Pending() < many {
		w.is("C7", w.c.Lie(len(w.addrs)-1, 0, status(1)), api.OK)
	}
}

// TestMaxPending: the MaxPending + 1st is lost, whoever sends it; one that is delivered makes room first.
func TestMaxPending(t *testing.T) {
	w := begin(t, four(), 1)
	w.fillWay(api.MaxPending - 1)
	w.tick(0, 2) // four messages, of which the first has room
	if got := w.c.Pending(); got != api.MaxPending {
		t.Fatalf("C3: %d are under way", got)
	}
	last := w.way()[api.MaxPending-1]
	if last.from != 0 || last.to != 1 || last.m.Kind != api.MsgProposal {
		t.Errorf("C3: the last one is %+v", last)
	}
	w.is("C7: it is lost", w.c.Lie(3, -1, status(2)), api.OK)
	if got := w.way(); len(got) != api.MaxPending || !reflect.DeepEqual(got[api.MaxPending-1], last) {
		t.Errorf("C7: %d are under way", len(got))
	}
	w.tick(1, 2)
	w.is("C3", w.c.Deliver(api.MaxPending-1, true), api.OK) // node 1 prevotes, and there is no room
	if got := w.way(); len(got) != api.MaxPending || !reflect.DeepEqual(got[api.MaxPending-1], last) {
		t.Errorf("C3: %d are under way", len(got))
	}
	w.is("C3", w.c.Drop(0), api.OK)
	w.is("C3", w.c.Drop(0), api.OK)
	w.is("C7", w.c.Lie(3, -1, status(3)), api.OK)
	if got := w.way(); len(got) != api.MaxPending || got[api.MaxPending-1].to != 1 || got[api.MaxPending-2].to != 0 {
		t.Errorf("C7: %d are under way", len(got))
	}
}

// TestMaxPendingRoom: a message that is taken off makes room for one of those that come of it.
func TestMaxPendingRoom(t *testing.T) {
	w := begin(t, four(), 1)
	w.tick(1, 2)
	w.tick(2, 2)
	w.tick(0, 2)
	w.fillWay(api.MaxPending)
	w.is("C3", w.c.Deliver(0, false), api.OK) // node 1 prevotes: to 0, and, lost, to 2
	got := w.way()
	if last := got[len(got)-1]; len(got) != api.MaxPending || last.from != 1 || last.to != 0 || last.m.Kind != api.MsgVote {
		t.Errorf("C3: %d are under way, the last from %d to %d", len(got), last.from, last.to)
	}
	w.rounds(1) // all are taken off at once: there is room for all that comes of them, as node 2's prevote
	var to []int
	for _, x := range w.way() {
		if x.from == 2 && x.m.Kind == api.MsgVote && x.m.Votes[0].Kind == api.Prevote {
			to = append(to, x.to)
		}
	}
	if !reflect.DeepEqual(to, []int{0, 1}) || w.c.Pending() > 100 {
		t.Errorf("C8: node 2's prevote is under way to %v, %d are in all", to, w.c.Pending())
	}
}
