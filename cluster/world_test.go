package cluster_test

import (
	"math"
	"testing"

	"assent/api"
	"assent/chain"
	"assent/cluster"
	"assent/wire"
)

const name = "test"

var none api.Hash

// edges are numbers at which something might wrap.
var edges = []uint64{0, 1, 2, 3, 4, 5, 10, 64, 100, 1000, api.MaxRound, api.MaxTicks, api.MaxHeight, api.MaxHeight + 1, api.MaxTime, api.MaxTime + 1, api.MaxSupply, api.MaxSupply + 1, math.MaxInt64, math.MaxInt64 + 1, math.MaxUint64 - 1, math.MaxUint64}

// places are numbers of which some are places of nodes or of messages.
var places = []int{math.MinInt, math.MinInt32, -2, -1, 0, 1, 2, 3, 4, 5, 31, 32, 65535, 65536, math.MaxInt32, math.MaxInt}

// genesis is a beginning with the accounts from 1 on, each with the balance 100 and a bond; the chapter's examples have four with the bond 10.
func genesis(bonds ...uint64) api.Genesis {
	g := api.Genesis{Chain: name, Time: 7}
	for k, bond := range bonds {
		g.Accounts = append(g.Accounts, api.Account{Addr: api.Addr(k + 1), Balance: 100, Bond: bond})
	}
	g.Params = api.Params{MinBond: 1, Seats: 64, Slash: 500, Period: 9, Age: 4, MaxTxs: 10, Propose: 6, Votes: 4, Pause: 2, Resend: 5, Trusting: 1000, Drift: 10}
	return g
}

func four() api.Genesis { return genesis(10, 10, 10, 10) }

// upTo are the addresses from 1 on.
func upTo(n int) (addrs []api.Addr) {
	for k := range n {
		addrs = append(addrs, api.Addr(k+1))
	}
	return addrs
}

// world is a cluster, and what was handed to its New.
type world struct {
	t     *testing.T
	g     api.Genesis
	addrs []api.Addr
	liars int
	c     *cluster.Cluster
}

// begin is a cluster whose addresses are those from 1 on, as many as there are accounts; the last ones lie.
func begin(t *testing.T, g api.Genesis, liars int) *world {
	t.Helper()
	return beginWith(t, g, upTo(len(g.Accounts)), liars)
}

func beginWith(t *testing.T, g api.Genesis, addrs []api.Addr, liars int) *world {
	t.Helper()
	c, e := cluster.New(g, addrs, liars)
	is(t, "C1", e, api.OK)
	return &world{t: t, g: g, addrs: addrs, liars: liars, c: c}
}

func is(t *testing.T, what string, got, want api.Errno) {
	t.Helper()
	if got != want {
		t.Fatalf("%s: error %d, want %d", what, got, want)
	}
}

func (w *world) is(what string, got, want api.Errno) {
	w.t.Helper()
	is(w.t, what, got, want)
}

func (w *world) honest() int { return len(w.addrs) - w.liars }

func (w *world) rounds(n int) {
	w.t.Helper()
	w.is("C8", w.c.Rounds(n), api.OK)
}

func (w *world) tick(node int, by uint64) {
	w.t.Helper()
	w.is("C4", w.c.Tick(node, by), api.OK)
}

func (w *world) state(node int) api.State {
	w.t.Helper()
	st, e := w.c.State(node)
	w.is("C9", e, api.OK)
	return st
}

func (w *world) view(node int) api.View {
	w.t.Helper()
	v, e := w.c.View(node)
	w.is("C9", e, api.OK)
	return v
}

func (w *world) clock(node int) uint64 {
	w.t.Helper()
	now, e := w.c.Clock(node)
	w.is("C9", e, api.OK)
	return now
}

func (w *world) block(node int, height uint64) (api.Block, api.Cert) {
	w.t.Helper()
	b, x, e := w.c.Block(node, height)
	w.is("C9", e, api.OK)
	return b, x
}

func (w *world) heard(node int, height uint64) []api.Vote {
	w.t.Helper()
	votes, e := w.c.Heard(node, height)
	w.is("C10", e, api.OK)
	return votes
}

func (w *world) account(node int, a api.Addr) api.Account {
	w.t.Helper()
	for _, x := range w.state(node).Ledger.Accounts {
		if x.Addr == a {
			return x
		}
	}
	return api.Account{}
}

// message is one that is under way.
type message struct {
	from, to int
	m        api.Msg
}

// way is all that is under way.
func (w *world) way() (all []message) {
	w.t.Helper()
	for at := range w.c.Pending() {
		from, to, b, e := w.c.Peek(at)
		w.is("C2", e, api.OK)
		m, e := wire.DecodeMsg(b)
		w.is("C14: what is under way has a form", e, api.OK)
		all = append(all, message{from, to, m})
	}
	return all
}

// clear loses all that is under way.
func (w *world) clear() {
	w.t.Helper()
	for w.c.Pending() > 0 {
		w.is("C3", w.c.Drop(w.c.Pending()-1), api.OK)
	}
}

// lie has a liar send votes of its own, sealed, one a message.
func (w *world) lie(liar, to int, votes ...api.Vote) {
	w.t.Helper()
	for _, v := range votes {
		v.From = w.addrs[liar]
		w.is("C7", w.c.Lie(liar, to, voted(v)), api.OK)
	}
}

func voted(v api.Vote) api.Msg { return api.Msg{Kind: api.MsgVote, Votes: []api.Vote{v}} }

func status(height uint64) api.Msg { return api.Msg{Kind: api.MsgStatus, Height: height} }

// proof is evidence of two prevotes of an address, not sealed yet.
func proof(height uint64, from api.Addr) api.Msg {
	a := api.Vote{Kind: api.Prevote, Height: height, From: from}
	b := a
	b.Id[0] = 1
	return api.Msg{Kind: api.MsgEvidence, Evidence: api.Evidence{A: a, B: b}}
}

func idOf(b api.Block) api.Hash {
	id, _ := wire.BlockId(b.Header)
	return id
}

// sealed is a vote with the seal that its own bytes have, whether the book knows them or not.
func sealed(v api.Vote) api.Vote {
	msg, _ := wire.VoteBytes(name, v)
	v.Seal = sealOf(v.From, msg)
	return v
}

// played is the state behind a node's blocks, from the beginning on.
func (w *world) played(node int) api.State {
	w.t.Helper()
	st, e := chain.Begin(w.g)
	w.is("Begin", e, api.OK)
	for h := uint64(1); ; h++ {
		b, x, e := w.c.Block(node, h)
		if e == api.ErrNone {
			return st
		}
		w.is("C9", e, api.OK)
		w.is("W2", chain.CheckCert(st.Council, w.c.Registry(), w.g.Chain, x), api.OK)
		st, e = chain.Apply(st, w.c.Registry(), b)
		w.is("W2", e, api.OK)
	}
}
