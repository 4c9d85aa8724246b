package cluster_test

import (
	"encoding/hex"
	"reflect"
	"slices"
	"testing"

	"assent/api"
	"assent/cluster"
	"assent/ledger"
	"assent/light"
	"assent/wire"
)

// wantNode is what a script is told of a node.
func (w *world) wantNode(what string, k int, height uint64, round, step, locked, valid int, clock uint64, dead bool) {
	w.t.Helper()
	v := w.view(k)
	if got := w.state(k).Height; got != height || v.Round != round || v.Step != step || v.Locked != locked || v.Valid != valid || w.clock(k) != clock || w.c.Dead(k) != dead {
		w.t.Fatalf("%s: node %d height %d round %d step %d locked %d valid %d clock %d dead %v", what, k, got, v.Round, v.Step, v.Locked, v.Valid, w.clock(k), w.c.Dead(k))
	}
}

// TestTen: DOC.md's ten examples of the whole.
func TestTen(t *testing.T) {
	g := api.Genesis{Chain: "c", Time: 1, Params: api.Params{MinBond: 1, Seats: 64, Slash: 100, Period: 16, Age: 8, MaxTxs: 100, Propose: 6, Votes: 4, Pause: 2, Resend: 5, Trusting: 1000, Drift: 10}}
	for a := api.Addr(11); a <= 14; a++ {
		g.Accounts = append(g.Accounts, api.Account{Addr: a, Balance: 100, Bond: 5})
	}
	g.Accounts = append(g.Accounts, api.Account{Addr: 40, Balance: 500})
	w := beginWith(t, g, []api.Addr{11, 12, 13, 14}, 1)
	w.wantNode("example 2", 0, 0, 0, 0, -1, -1, 1, false)
	_, e := w.c.View(3)
	w.is("example 2", e, api.ErrNode)
	w.rounds(30)
	w.wantNode("example 3", 0, 3, 1, 2, -1, -1, 31, false)
	w.is("example 4", w.c.Submit(0, api.Tx{Kind: api.TxPay, From: 40, To: 41, Amount: 30, Fee: 2}), api.OK)
	w.rounds(40)
	w.wantNode("example 4", 0, 9, 0, 3, 0, 0, 71, false)
	if x, y := w.account(0, 41), w.account(0, 40); x != (api.Account{Addr: 41, Balance: 30}) || y != (api.Account{Addr: 40, Balance: 468, Nonce: 1}) {
		t.Errorf("example 5: %+v, %+v", x, y)
	}
	for k := range 2 {
		b, x := w.block(k, 2)
		id := idOf(b)
		if hex.EncodeToString(id[:]) != "f885f7a2000cd586ed6257e2d2bbfee2e3cfcad351caa980196567ab1d3e0091" || x.Round != 0 || b.Header.Time != 4 || len(b.Txs)+len(b.Evidence) != 0 || b.Header.Proposer != 12 {
			t.Errorf("example 6: %x, %+v", id, b)
		}
	}
	w.is("example 7", w.c.Arm(0, api.Trouble{At: 2, Kind: api.TrPower}), api.OK)
	w.rounds(9)
	w.wantNode("example 7", 0, 9, 0, 3, 0, 0, 80, true)
	w.is("example 8", w.c.Restart(0, []int{5, 5, 5, 5}, 0), api.OK)
	w.wantNode("example 8", 0, 9, 0, 3, 0, 0, 80, false)
	w.rounds(60)
	w.wantNode("example 8", 0, 16, 0, 0, -1, -1, 140, false)
	w.wantNode("example 8", 1, 16, 0, 0, -1, -1, 140, false)
	b, _ := w.block(0, 1)
	w.lie(3, -1, api.Vote{Kind: api.Prevote, Height: 9}, api.Vote{Kind: api.Prevote, Height: 9, Id: idOf(b)})
	if got := w.c.Pending(); got != 8 {
		t.Errorf("example 9: %d are under way", got)
	}
	_, e = w.c.Blame()
	w.is("example 9", e, api.ErrNone)
	w.is("example 10", w.c.Submit(1, api.Tx{Kind: api.TxBond, From: 40, Amount: 50, Fee: 1, Nonce: 1}), api.OK)
	w.rounds(60)
	var powers []uint64
	for _, m := range w.state(0).Council.Members {
		powers = append(powers, uint64(m.Addr), m.Power)
	}
	if !slices.Equal(powers, []uint64{11, 5, 12, 5, 13, 5, 14, 5, 40, 50}) {
		t.Errorf("example 10: %v", powers)
	}
	w.rounds(200)
	if got := w.state(0).Height; got != 18 {
		t.Errorf("example 10: it stands still at %d", got)
	}
}

// TestExamples: those of the chapter that stand nowhere else.
func TestExamples(t *testing.T) {
	w := begin(t, four(), 1)
	_, e := w.c.State(3)
	w.is("example 1", e, api.ErrNode)
	w.is("example 1", w.c.Lie(2, 0, status(1)), api.ErrActor)
	w.tick(0, 2)
	if v := w.view(0); v.Height != 1 || v.Step == api.StepNew || w.c.Pending() == 0 {
		t.Errorf("example 3: %+v", v)
	}
	_, e = w.c.Heard(0, 0)
	w.is("example 6", e, api.ErrArg)
	_, e = w.c.Blame()
	w.is("example 6", e, api.ErrNone)
}

// TestGoesOn is W5 of clusters that nothing befalls, of any size, with as many liars as may be: silent ones, and all is decided in time.
func TestGoesOn(t *testing.T) {
	for n := 1; n <= 13; n++ {
		x := &play{}
		bonds := make([]uint64, n)
		for k := range bonds {
			bonds[k] = 10
		}
		x.pair = &pair{world: begin(t, genesis(bonds...), (n-1)/3), m: nil, counts: map[api.Errno]int{}}
		for range 5 {
			limit, most := x.bound()
			for k := uint64(0); ; k++ {
				least := uint64(api.MaxHeight)
				for j := range x.honest() {
					least = min(least, x.state(j).Height)
				}
				if least > most {
					break
				}
				if k > limit {
					t.Fatalf("W5: %d nodes stand still at %d", n, most)
				}
				x.world.rounds(1)
			}
		}
	}
}

// TestThird: where a third of the power is silent nobody goes on, and nobody errs.
func TestThird(t *testing.T) {
	w := begin(t, genesis(10, 10, 10), 1)
	w.rounds(400)
	for k := range 2 {
		if w.state(k).Height != 0 {
			t.Errorf("node %d is at %d", k, w.state(k).Height)
		}
	}
	_, e := w.c.Blame()
	w.is("C11", e, api.ErrNone)
}

// TestAgain is C12 and W9: the same calls bring about the same, and a cluster knows nothing of another one.
func TestAgain(t *testing.T) {
	calls := func() (all []func(c *cluster.Cluster) any) {
		do := func(f func(c *cluster.Cluster) any) { all = append(all, f) }
		for n := range 60 {
			do(func(c *cluster.Cluster) any { return c.Rounds(3) })
			do(func(c *cluster.Cluster) any {
				return c.Submit(n%3, api.Tx{Kind: api.TxPay, From: api.Addr(1 + n%4), To: 60, Amount: 1, Nonce: uint64(n / 4)})
			})
			do(func(c *cluster.Cluster) any { return c.Deliver(n%7, n%2 == 0) })
			do(func(c *cluster.Cluster) any { return c.Drop(n % 11) })
			if n%9 == 0 {
				do(func(c *cluster.Cluster) any { return c.Lie(3, -1, proof(uint64(1+n/6), 4)) })
				do(func(c *cluster.Cluster) any { return c.Arm(n%3, api.Trouble{At: 1 + n%5, Kind: api.TrPower}) })
			}
			if n%10 == 9 {
				do(func(c *cluster.Cluster) any {
					return [3]api.Errno{c.Restart(0, []int{n, n, n, n}, byte(n)), c.Restart(1, nil, 0), c.Restart(2, nil, 0)}
				})
			}
			do(func(c *cluster.Cluster) any { return c.Tick(n%4, uint64(n%5)) })
			do(func(c *cluster.Cluster) any { return tellAll(c, uint64(n)) })
		}
		return all
	}
	one, two := begin(t, four(), 1), begin(t, four(), 1)
	lone := begin(t, four(), 1)
	for _, call := range calls() {
		if x, y := call(one.c), call(two.c); !reflect.DeepEqual(x, y) {
			t.Fatalf("C12: %v, and %v", x, y)
		}
	}
	if one.state(0).Height < 10 {
		t.Errorf("they are at %d", one.state(0).Height)
	}
	if lone.c.Pending() != 0 || lone.clock(0) != 7 || lone.c.Registry().Count() != 0 {
		t.Errorf("G4: a cluster has changed another one")
	}
}

// tellAll is all that a cluster tells, of a height.
func tellAll(c *cluster.Cluster, height uint64) (all []any) {
	add := func(x ...any) { all = append(all, x...) }
	n, honest := c.Nodes()
	add(n, honest, c.Pending(), c.Registry().Count())
	for at := range c.Pending() {
		from, to, b, e := c.Peek(at)
		add(from, to, b, e)
	}
	for k := -1; k <= n; k++ {
		st, e := c.State(k)
		add(st, e)
		v, e := c.View(k)
		add(v, e)
		b, x, e := c.Block(k, height)
		add(b, x, e, c.Dead(k))
		now, e := c.Clock(k)
		add(now, e)
		txs, e := c.Pool(k)
		add(txs, e)
		votes, e := c.Heard(k, height)
		add(votes, e)
		l, e := c.Light(k, height)
		add(l, e)
	}
	for a := range api.Addr(n + 2) {
		add(c.Signed(a))
	}
	guilts, e := c.Blame()
	add(guilts, e)
	return all
}

// TestOpenedAnew is W9 of nodes: wherever one is cut, it tells the same State, and the View that the records in its log bring about.
func TestOpenedAnew(t *testing.T) {
	for at := 1; at <= 12; at++ {
		for _, done := range []bool{false, true} {
			w := begin(t, four(), 1)
			w.rounds(12)
			w.is("C5", w.c.Arm(0, api.Trouble{At: at, Kind: api.TrPower, Done: done}), api.OK)
			st, view := w.state(0), w.view(0)
			for !w.c.Dead(0) {
				st, view = w.state(0), w.view(0)
				if w.c.Pending() > 0 {
					w.is("C3", w.c.Deliver(0, false), api.OK)
					continue
				}
				for k := range 3 {
					if !w.c.Dead(0) {
						st, view = w.state(0), w.view(0)
						w.tick(k, 1)
					}
				}
			}
			w.is("C5", w.c.Restart(0, nil, 0), api.OK)
			got, now := w.state(0), w.view(0)
			if got.Height < st.Height || got.Height > st.Height+1 || got.Height == st.Height && (!reflect.DeepEqual(got, st) || now.Round < view.Round || now.Round == view.Round && now.Step < view.Step) {
				t.Errorf("W9: at %d, %v: %+v, it was %+v", at, done, now, view)
			}
			if !sameState(w.played(0), got) {
				t.Errorf("W3: at %d, %v: another state than its blocks bring about", at, done)
			}
			w.is("C5", w.c.Restart(0, nil, 0), api.OK)
			if !reflect.DeepEqual(w.state(0), got) || w.view(0) != now {
				t.Errorf("W9: at %d, %v: opened once more, %+v, it was %+v", at, done, w.view(0), now)
			}
			w.rounds(120)
			wantHonest(t, w.c.Signed(1))
			if w.state(0).Height < st.Height+3 {
				t.Errorf("W5: at %d, %v: it stands still", at, done)
			}
		}
	}
}

// TestLightClient is W7 as far as it reaches this package: who follows the headers that any node shows comes to trust the chain's.
func TestLightClient(t *testing.T) {
	w := begin(t, four(), 1)
	w.rounds(30)
	w.is("C6", w.c.Submit(0, api.Tx{Kind: api.TxUnbond, From: 1, Amount: 4}), api.OK)
	w.rounds(100)
	first, e := w.c.Light(0, 1)
	w.is("C9", e, api.OK)
	top := w.state(1).Height
	client, e := light.New(w.g.Params, name, w.c.Registry(), first, w.clock(0))
	w.is("light.New", e, api.OK)
	for k, height := range []uint64{3, 2, top / 2, top} {
		w.is("W7", client.Update(height, w.clock(0), func(h uint64) (api.LightBlock, api.Errno) { return w.c.Light(k%3, h) }), api.OK)
		u, e := client.Trusted(height)
		w.is("W7", e, api.OK)
		b, x := w.block(0, height)
		if u.Header != b.Header || u.Cert.Id != x.Id {
			t.Errorf("W7: another header of %d is trusted", height)
		}
	}
	w.is("W7: a liar shows nothing", client.Update(top-1, w.clock(0), func(h uint64) (api.LightBlock, api.Errno) { return w.c.Light(3, h) }), api.ErrNode)
}

// TestProofs is W8 as far as it reaches this package: what State and Block tell is what the headers bind.
func TestProofs(t *testing.T) {
	w := begin(t, four(), 1)
	states := map[uint64]api.State{0: w.state(1)}
	for n := range 100 {
		if n%9 == 0 {
			w.c.Submit(n%3, pays(2, w.account(n%3, 2).Nonce))
		}
		w.rounds(1)
		states[w.state(1).Height] = w.state(1)
	}
	txs := 0
	for h := uint64(1); h <= w.state(1).Height; h++ {
		l, e := w.c.Light(1, h)
		w.is("C9", e, api.OK)
		b, _ := w.block(1, h)
		if root, _ := wire.TxsRoot(b.Txs); root != l.Header.Txs || b.Header != l.Header {
			t.Errorf("W8: other transactions stand in block %d", h)
		}
		txs += len(b.Txs)
		st, there := states[h-1]
		if !there {
			continue
		}
		for _, a := range []api.Addr{1, 2, 50, 99} {
			witness, e := ledger.Prove(st.Ledger, a)
			w.is("ledger.Prove", e, api.OK)
			acc, found, e := ledger.Verify(l.Header.State, a, witness)
			if want, e2 := ledger.Find(st.Ledger, a); e != api.OK || acc != want || found != (e2 == api.OK) {
				t.Errorf("W8: %d behind block %d: %+v, error %d", a, h-1, acc, e)
			}
		}
	}
	if txs < 3 {
		t.Errorf("%d transactions stand in the chain", txs)
	}
}
