package cluster_test

import (
	"math"
	"testing"

	"assent/api"
	"assent/chain"
	"assent/cluster"
)

func wantNone(t *testing.T, what string, g api.Genesis, addrs []api.Addr, liars int, want api.Errno) {
	t.Helper()
	c, e := cluster.New(g, addrs, liars)
	is(t, what, e, want)
	if c != nil {
		t.Errorf("G2: %s: a cluster beside an error", what)
	}
}

func TestNewRefuses(t *testing.T) {
	tooMany := upTo(api.MaxNodes + 1)
	nobody := genesis(0, 0) // chain.Begin: ErrEmpty
	for what, addrs := range map[string][]api.Addr{"nil": nil, "none": {}, "0": {0}, "0 at the end": {1, 2, 0}, "1 twice": {1, 1}, "1 twice, apart": {1, 2, 3, 1}, "too many": tooMany} {
		wantNone(t, "C1: "+what, four(), addrs, 0, api.ErrArg)
		wantNone(t, "C1: ahead of Begin's error: "+what, nobody, addrs, 0, api.ErrArg)
	}
	for _, liars := range []int{math.MinInt, -1, 4, 5, math.MaxInt} {
		wantNone(t, "C1: liars", four(), upTo(4), liars, api.ErrArg)
		wantNone(t, "C1: liars, ahead of Begin's error", nobody, upTo(4), liars, api.ErrArg)
	}
	wantNone(t, "C1: Begin's error", nobody, upTo(4), 1, api.ErrEmpty)
	for what, bend := range map[string]func(*api.Genesis){
		"no name":            func(g *api.Genesis) { g.Chain = "" },
		"a long name":        func(g *api.Genesis) { g.Chain = "seventeen letters" },
		"a late beginning":   func(g *api.Genesis) { g.Time = api.MaxTime + 1 },
		"a short period":     func(g *api.Genesis) { g.Params.Period = 6 },
		"no accounts":        func(g *api.Genesis) { g.Accounts = nil },
		"an account of 0":    func(g *api.Genesis) { g.Accounts[0].Addr = 0 },
		"accounts in turns":  func(g *api.Genesis) { g.Accounts[0].Addr = 9 },
		"more than there is": func(g *api.Genesis) { g.Accounts[0].Balance = api.MaxSupply },
	} {
		g := four()
		bend(&g)
		_, want := chain.Begin(g)
		if want == api.OK {
			t.Fatalf("%s is no fault", what)
		}
		wantNone(t, "C1: "+what, g, upTo(4), 1, want)
	}
}

// TestNewBegins: all nodes stand at the beginning, everybody of the list is entered and nobody else, and nothing is under way.
func TestNewBegins(t *testing.T) {
	w := begin(t, four(), 1)
	first, _ := chain.Begin(w.g)
	for k := range 3 {
		if !sameState(w.state(k), first) || w.clock(k) != 7 || w.c.Dead(k) {
			t.Errorf("C1: node %d does not stand at the beginning", k)
		}
		if v := w.view(k); v != (api.View{Height: 1, Locked: -1, Valid: -1}) {
			t.Errorf("C1: node %d: %+v", k, v)
		}
	}
	if all, honest := w.c.Nodes(); all != 4 || honest != 3 || w.c.Pending() != 0 {
		t.Errorf("example 1: %d, %d, %d under way", all, honest, w.c.Pending())
	}
	r := w.c.Registry()
	for a := range api.Addr(300) {
		if r.Known(a) != (a >= 1 && a <= 4) {
			t.Errorf("C1: %d: entered %v", a, r.Known(a))
		}
	}
	for _, a := range w.addrs { // so nobody else comes by their signers
		_, e := r.Enter(a)
		w.is("C1", e, api.ErrTwice)
	}
	if r.Count() != 0 || w.c.Registry() != r {
		t.Errorf("C2: another registry, or somebody has signed")
	}
}

// TestNewEdges: one node, as many as may be, all but one liars.
func TestNewEdges(t *testing.T) {
	for _, x := range [][2]int{{1, 0}, {2, 1}, {api.MaxNodes, 0}, {api.MaxNodes, api.MaxNodes - 1}} {
		w := beginWith(t, four(), upTo(x[0]), x[1])
		if all, honest := w.c.Nodes(); all != x[0] || honest != x[0]-x[1] {
			t.Errorf("C2: %d, %d", all, honest)
		}
		if _, e := w.c.State(w.honest() - 1); e != api.OK {
			t.Errorf("C9: the last honest one: error %d", e)
		}
		if _, e := w.c.State(w.honest()); e != api.ErrNode {
			t.Errorf("C9: the first liar: error %d", e)
		}
	}
	g := four()
	g.Time = api.MaxTime
	w := beginWith(t, g, upTo(4), 0)
	w.rounds(3)
	if w.clock(0) != api.MaxTime {
		t.Errorf("C4: %d", w.clock(0))
	}
}

// TestStrangers: no account need belong to an address, and none need sit in a council: such nodes look on.
func TestStrangers(t *testing.T) {
	w := beginWith(t, genesis(10), []api.Addr{9, 1, math.MaxUint64}, 0)
	w.rounds(60)
	for k := range 3 {
		if w.state(k).Height < 8 {
			t.Errorf("C1: node %d is at %d", k, w.state(k).Height)
		}
	}
	for _, a := range []api.Addr{9, math.MaxUint64} {
		if len(w.c.Signed(a)) > 0 {
			t.Errorf("C1: %d, who is no member, has signed", a)
		}
	}
	w = beginWith(t, genesis(10), []api.Addr{2, 3}, 0)
	w.rounds(60)
	if w.state(0).Height != 0 {
		t.Errorf("C1: a chain without its only member is at %d", w.state(0).Height)
	}
}

// TestWhose: the places are those of the list, whatever order its addresses stand in.
func TestWhose(t *testing.T) {
	w := beginWith(t, four(), []api.Addr{3, 1, 4, 2}, 1)
	w.rounds(40)
	for k, a := range w.addrs {
		if got := len(w.c.Signed(a)) > 0; got != (k < 3) {
			t.Errorf("C1: %d at the place %d has signed: %v", a, k, got)
		}
	}
	for _, v := range w.heard(1, 1) {
		if v.From == 2 {
			t.Errorf("C1: the liar 2 votes by itself")
		}
	}
}
