package client_test

import (
	"fmt"
	"testing"

	"assent/api"
	"assent/chain"
	"assent/client"
	"assent/cluster"
	"assent/ledger"
	"assent/light"
	"assent/wire"
)

// town is a cluster of four members of whom the last ones lie, with accounts of others, and what its chain has come to: the ledgers behind each height, from the beginning on.
type town struct {
	t       *testing.T
	g       api.Genesis
	c       *cluster.Cluster
	ledgers []api.Ledger
}

func newTown(t *testing.T, liars int) *town {
	t.Helper()
	g := api.Genesis{Chain: name, Time: 7, Params: api.Params{MinBond: 1, Seats: 64, Slash: 500, Period: 9, Age: 4, MaxTxs: 10, Propose: 6, Votes: 4, Pause: 2, Resend: 5, Trusting: 100000, Drift: 10}}
	for a := api.Addr(1); a <= 4; a++ {
		g.Accounts = append(g.Accounts, api.Account{Addr: a, Balance: 100, Bond: 10})
	}
	g.Accounts = append(g.Accounts, api.Account{Addr: 40, Balance: 500})
	c, e := cluster.New(g, []api.Addr{1, 2, 3, 4}, liars)
	is(t, "cluster.New", e, api.OK)
	return &town{t: t, g: g, c: c}
}

// live has people pay, bond and let go, the liar vote twice, and blocks come.
func (w *town) live(rounds int) {
	w.t.Helper()
	for k := range uint64(rounds) {
		w.c.Submit(int(k%3), api.Tx{Kind: api.TxPay, From: 40, To: 41 + api.Addr(k%5), Amount: 1 + k, Fee: k % 3, Nonce: k})
		switch k {
		case 2:
			w.c.Submit(0, api.Tx{Kind: api.TxUnbond, From: 2, Amount: 3})
		case 4:
			w.c.Submit(1, api.Tx{Kind: api.TxBond, From: 1, Amount: 5, Fee: 1})
		case 6:
			st, _ := w.c.State(0)
			a := api.Vote{Kind: api.Prevote, Height: st.Height, From: 4}
			b := a
			b.Id[0] = 1
			w.c.Lie(3, -1, api.Msg{Kind: api.MsgEvidence, Evidence: api.Evidence{A: a, B: b}})
		}
		is(w.t, "Rounds", w.c.Rounds(4), api.OK)
	}
	w.replay()
}

// replay plays the blocks from the beginning on.
func (w *town) replay() {
	w.t.Helper()
	st, e := chain.Begin(w.g)
	is(w.t, "Begin", e, api.OK)
	w.ledgers = []api.Ledger{st.Ledger}
	for h := uint64(1); ; h++ {
		b, _, e := w.c.Block(0, h)
		if e == api.ErrNone {
			return
		}
		st, e = chain.Apply(st, w.c.Registry(), b)
		is(w.t, "W2", e, api.OK)
		w.ledgers = append(w.ledgers, st.Ledger)
	}
}

func (w *town) tall() uint64 { return uint64(len(w.ledgers) - 1) }

func (w *town) clock() uint64 {
	now, _ := w.c.Clock(0)
	return now
}

// source is an honest node with what it has kept of all ledgers.
func (w *town) source(node int) *source {
	return &source{
		light: func(height uint64) (api.LightBlock, api.Errno) { return w.c.Light(node, height) },
		account: func(height uint64, a api.Addr) (api.Witness, api.Errno) {
			if height > w.tall() {
				return api.Witness{}, api.ErrNone
			}
			return ledger.Prove(w.ledgers[height], a)
		},
		tx: func(height uint64, at int) (api.Tx, api.Proof, api.Errno) {
			b, _, e := w.c.Block(node, height)
			if e != api.OK || at >= len(b.Txs) {
				return api.Tx{}, api.Proof{}, api.ErrNone
			}
			return (&world{chain: make([]api.LightBlock, 2), txs: [][]api.Tx{nil, b.Txs}}).txOf(1, at)
		},
	}
}

func (w *town) client(first uint64) *client.Client {
	w.t.Helper()
	u, e := w.c.Light(0, first)
	is(w.t, "Light", e, api.OK)
	c, e := client.New(w.g.Params, name, w.c.Registry(), u, w.clock())
	is(w.t, "S1", e, api.OK)
	return c
}

// wantAll: by any honest source the client takes each account behind each height below the last, and each transaction.
func (w *town) wantAll(what string, c *client.Client, s *source) (accounts, txs int) {
	w.t.Helper()
	for h := uint64(1); h <= w.tall(); h++ {
		is(w.t, what, c.Follow(s, h, w.clock()), api.OK)
		for _, a := range []api.Addr{0, 1, 2, 3, 4, 5, 40, 41, 42, 45, 46} {
			x, e := ledger.Find(w.ledgers[h-1], a)
			wantAccount(w.t, what, c, s, h-1, a, x)
			if e == api.OK {
				accounts++
			}
		}
		b, _, _ := w.c.Block(0, h)
		for at, x := range b.Txs {
			wantTx(w.t, what, c, s, h, at, x)
			txs++
		}
		wantNoTx(w.t, what, c, s, h, len(b.Txs), api.ErrNone)
	}
	return accounts, txs
}

// TestWhole: W8 of a cluster: what an honest node shows of accounts, bonds, what was let go and who is in jail is taken.
func TestWhole(t *testing.T) {
	w := newTown(t, 1)
	w.live(24)
	c := w.client(1)
	accounts, txs := w.wantAll("W8", c, w.source(1))
	if w.tall() < 12 || accounts < 80 || txs < 12 {
		t.Errorf("height %d, %d accounts, %d transactions", w.tall(), accounts, txs)
	}
	wantNoAccount(t, "S3: the header of the next height is not there yet", c, w.source(0), w.tall(), 40, api.ErrNone)
	last := w.ledgers[w.tall()]
	if x, _ := ledger.Find(last, 4); !x.Jailed || last.Burnt == 0 {
		t.Errorf("4 was not punished: %+v", x)
	}
	x, there, e := c.Account(w.source(2), w.tall()-1, 4)
	if e != api.OK || !there || !x.Jailed || x.Bond != 5 {
		t.Errorf("W8: %+v, %v, error %d", x, there, e)
	}
}

// forger shows a chain of its own: the liar's, by its own signature, with one who is rich there.
type forger struct {
	*town
	*source
	council api.Council // whom it says to be the council; none: the chain's
}

// richer is the ledger that the forger would have.
func (f *forger) richer(height uint64) api.Ledger {
	l := f.ledgers[min(height, f.tall())]
	l.Accounts = append([]api.Account(nil), l.Accounts...)
	l.Accounts[len(l.Accounts)-1].Balance += 1000
	l.Supply += 1000
	return l
}

func (f *forger) Light(height uint64) (api.LightBlock, api.Errno) {
	u, e := f.source.Light(height)
	if e != api.OK {
		return u, e
	}
	u.Header.State, _ = ledger.Root(f.richer(height - 1))
	u.Header.Txs, _ = wire.TxsRoot([]api.Tx{{Kind: api.TxPay, From: 40, To: 4, Amount: 77}})
	if len(f.council.Members) > 0 {
		u.Council = f.council
		u.Header.Council = digestOf(f.t, f.council)
		u.Header.Next = u.Header.Council
	}
	id, _ := wire.BlockId(u.Header)
	u.Cert = api.Cert{Height: height, Id: id}
	for k, m := range u.Council.Members {
		if m.Addr == 4 {
			u.Cert.Marks = []api.Mark{{Index: k, Time: u.Header.Time, Seal: f.seal(u)}}
		}
	}
	return u, api.OK
}

// seal is that of the liar's precommit, which the cluster has it sign.
func (f *forger) seal(u api.LightBlock) api.Seal {
	v := api.Vote{Kind: api.Precommit, Height: u.Cert.Height, Id: u.Cert.Id, Time: u.Header.Time, From: 4}
	is(f.t, "Lie", f.c.Lie(3, -1, api.Msg{Kind: api.MsgVote, Votes: []api.Vote{v}}), api.OK)
	_, _, b, _ := f.c.Peek(f.c.Pending() - 1)
	m, _ := wire.DecodeMsg(b)
	return m.Votes[0].Seal
}

func (f *forger) Account(height uint64, a api.Addr) (api.Witness, api.Errno) {
	return ledger.Prove(f.richer(height), a)
}

func (f *forger) Tx(uint64, int) (api.Tx, api.Proof, api.Errno) {
	return api.Tx{Kind: api.TxPay, From: 40, To: 4, Amount: 77}, api.Proof{Total: 1}, api.OK
}

// TestForgers is W7, as far as Follow stands on it, and W8: where the liars are few no chain of theirs comes to be trusted, and nothing of it is taken.
func TestForgers(t *testing.T) {
	w := newTown(t, 1)
	w.live(10)
	alone := seats(4)
	for _, f := range []*forger{{w, w.source(0), api.Council{}}, {w, w.source(0), alone}} {
		// By themselves they are good: who began with their block would believe them.
		if u, _ := f.Light(2); len(f.council.Members) > 0 {
			_, e := light.New(w.g.Params, name, w.c.Registry(), u, w.clock())
			is(t, "the forged block is whole", e, api.OK)
		}
		c := w.client(1)
		for _, h := range []uint64{2, 3, w.tall()} {
			e := c.Follow(f, h, w.clock())
			if e != api.ErrQuorum && e != api.ErrSeats && e != api.ErrTrust {
				t.Errorf("W7: %d: error %d", h, e)
			}
			if c.Latest() != 1 {
				t.Errorf("P19.4: the latest is %d", c.Latest())
			}
		}
		for h := uint64(1); h <= w.tall(); h++ {
			is(t, "W7", c.Follow(w.source(0), h, w.clock()), api.OK)
			for _, a := range []api.Addr{1, 40, 41, 99} {
				wantNoAccount(t, "W8", c, f, h-1, a, api.ErrLie)
			}
			wantNoTx(t, "W8", c, f, h, 0, api.ErrLie)
		}
		w.wantAll("P19.4", c, w.source(0))
	}
}

// TestDead is G7 as far as it reaches: where a node's disk has no power the source refuses, which is the answer; nothing that was told is undone, and another source goes on.
func TestDead(t *testing.T) {
	w := newTown(t, 0)
	w.live(6)
	c := w.client(1)
	h := w.tall()
	is(t, "S2", c.Follow(w.source(0), h, w.clock()), api.OK)
	is(t, "Arm", w.c.Arm(0, api.Trouble{At: 1, Kind: api.TrPower}), api.OK)
	is(t, "Rounds", w.c.Rounds(30), api.OK)
	if !w.c.Dead(0) {
		t.Fatalf("the node is alive")
	}
	s := w.source(0)
	_, e := s.Light(h + 1)
	is(t, "S2: what the source refuses with", c.Follow(s, h+1, w.clock()), e)
	if e == api.OK || c.Latest() != h {
		t.Errorf("P19.4: error %d, the latest is %d", e, c.Latest())
	}
	x, _ := ledger.Find(w.ledgers[h-1], 40)
	wantAccount(t, "S3", c, s, h-1, 40, x)
	is(t, "S2: another source", c.Follow(w.source(1), h+1, w.clock()), api.OK)
	x, _ = ledger.Find(w.ledgers[h], 40)
	wantAccount(t, fmt.Sprint("S3: behind ", h), c, s, h, 40, x)
}
