package light_test

import (
	"slices"
	"testing"

	"assent/api"
	"assent/chain"
	"assent/disk"
	"assent/light"
	"assent/node"
	"assent/wire"
)

func genesis(bonds ...uint64) api.Genesis {
	g := api.Genesis{Chain: name, Time: 100, Params: api.Params{MinBond: 1, Seats: 8, Slash: 500, Period: 9, Age: 4, MaxTxs: 9, Propose: 5, Votes: 3, Pause: 2, Resend: 50, Trusting: 500, Drift: 3}}
	for k, b := range bonds {
		g.Accounts = append(g.Accounts, api.Account{Addr: api.Addr(k + 1), Balance: 1000, Bond: b})
	}
	return g
}

// sealedTx is a transaction sealed by its sender.
func (w *world) sealedTx(x api.Tx) api.Tx {
	w.t.Helper()
	msg, e := wire.TxBytes(name, x)
	if e != api.OK {
		w.t.Fatalf("TxBytes: error %d", e)
	}
	if w.signers[x.From] == nil {
		w.signers[x.From], _ = w.r.Enter(x.From)
	}
	x.Seal, _ = w.signers[x.From].Sign(msg)
	return x
}

// decide puts a block of these transactions behind a state and the chain, signed by its council.
func (w *world) decide(st api.State, txs ...api.Tx) api.State {
	w.t.Helper()
	var last api.Cert
	if st.Height > 0 {
		last = w.chain[st.Height].Cert
	}
	b, e := chain.Make(st, w.r, txs, nil, last, st.Council.Members[0].Addr)
	if e != api.OK || len(b.Txs) != len(txs) {
		w.t.Fatalf("Make: error %d, %d transactions", e, len(b.Txs))
	}
	next, e := chain.Apply(st, w.r, b)
	if e != api.OK {
		w.t.Fatalf("Apply: error %d", e)
	}
	w.chain = append(w.chain, w.block(b.Header, st.Council))
	return next
}

// TestFollowsChain: a client follows a chain on which one half of the power hands over to the other, by few blocks or by all.
func TestFollowsChain(t *testing.T) {
	w := newWorld(t)
	g := genesis(10, 10, 10, 10, 0, 0, 0, 0)
	st, e := chain.Begin(g)
	is(t, "Begin", e, api.OK)
	for h := range uint64(40) {
		var txs []api.Tx
		if k := api.Addr(h / 10); h%10 == 4 { // now one joins, and another leaves
			txs = append(txs, w.sealedTx(api.Tx{Kind: api.TxBond, From: 5 + k, Amount: 20}), w.sealedTx(api.Tx{Kind: api.TxUnbond, From: 1 + k, Amount: 10}))
		}
		st = w.decide(st, txs...)
	}
	if got := st.Council.Members[0].Addr; got != 5 {
		t.Fatalf("the first member is %d", got)
	}
	s := &source{world: w}
	clock := st.Time
	c, e := light.New(g.Params, name, w.r, w.chain[1], clock)
	is(t, "P16.3", e, api.OK)
	is(t, "W7", c.Update(40, clock, s.fetch), api.OK)
	if len(s.asked) < 2 || len(s.asked) > 12 {
		t.Errorf("P16.4: fetched are %v", s.asked)
	}
	for h := uint64(1); h <= 40; h++ {
		is(t, "W7", c.Update(h, clock, s.fetch), api.OK)
	}
	var all []uint64
	for h := uint64(1); h <= 40; h++ {
		all = append(all, h)
	}
	w.wantTrusted("W7", c, all...)
	d, _ := light.New(g.Params, name, w.r, w.chain[1], clock)
	for _, h := range all {
		s.asked = nil
		is(t, "W7: one by one", d.Update(h, clock, s.fetch), api.OK)
		if len(s.asked) > 1 {
			t.Errorf("P16.4: fetched are %v", s.asked)
		}
	}
	w.wantTrusted("W7: one by one", d, all...)
}

// TestFollowsNode: what a node answers is a fetch.
func TestFollowsNode(t *testing.T) {
	w := newWorld(t)
	g := genesis(10)
	w.signers[1], _ = w.r.Enter(1)
	d, _ := disk.New(1 << 22)
	n, e := node.Open(g, d, w.r, w.signers[1], 100)
	is(t, "Open", e, api.OK)
	for n.State().Height < 12 {
		is(t, "Tick", n.Tick(n.Clock()+2), api.OK)
	}
	first, e := n.Answer(1)
	is(t, "Answer", e, api.OK)
	c, e := light.New(g.Params, name, w.r, first, n.Clock())
	is(t, "P16.3", e, api.OK)
	is(t, "P16.4", c.Update(13, n.Clock(), n.Answer), api.ErrNone)
	for _, h := range []uint64{12, 2, 7} {
		is(t, "P16.4", c.Update(h, n.Clock(), n.Answer), api.OK)
	}
	if got := c.Heights(); !slices.Equal(got, []uint64{1, 2, 7, 12}) {
		t.Errorf("P16.5: %v", got)
	}
	for _, h := range c.Heights() {
		b, _, _ := n.Block(h)
		if u, e := c.Trusted(h); e != api.OK || u.Header != b.Header {
			t.Errorf("W7: %d: %v, error %d", h, u, e)
		}
	}
}
