package client_test

import (
	"fmt"
	"slices"
	"testing"

	"assent/api"
	"assent/client"
	"assent/council"
	"assent/digest"
	"assent/ledger"
	"assent/seal"
	"assent/wire"
)

const name = "c"

// params are those of chapter 16's examples.
var params = api.Params{Trusting: 100, Drift: 5}

// world is a book of seals with everybody's signers, and a chain of headers over ledgers and transactions. What stands at the place k is of the height base + k; at the place 0 there is a ledger alone.
type world struct {
	t       *testing.T
	r       *seal.Registry
	signers map[api.Addr]*seal.Signer
	base    uint64
	chain   []api.LightBlock
	ledgers []api.Ledger // behind the block
	txs     [][]api.Tx
}

func newWorld(t *testing.T, base uint64, l api.Ledger) *world {
	start := api.LightBlock{Header: api.Header{Height: base, Time: 10 * base}}
	return &world{t: t, r: seal.New(), signers: map[api.Addr]*seal.Signer{}, base: base, chain: []api.LightBlock{start}, ledgers: []api.Ledger{l}, txs: [][]api.Tx{nil}}
}

// examples is the world of the chapter's: chapter 16's nine blocks, of the times 10 to 90, by 1, 2, 3 up to height 4, by 4, 5, 6 from height 5 on; in block 2 address 1 pays 30 to 3, and lets some of its balance stand as bond.
func examples(t *testing.T) *world {
	t.Helper()
	w := newWorld(t, 0, accounts(t, api.Account{Addr: 1, Balance: 100}, api.Account{Addr: 5, Balance: 7, Bond: 2}))
	low, high := seats(1, 2, 3), seats(4, 5, 6)
	pays := api.Tx{Kind: api.TxPay, From: 1, To: 3, Amount: 30}
	bonds := api.Tx{Kind: api.TxBond, From: 1, Amount: 4, Nonce: 1}
	for h := 1; h <= 9; h++ {
		c, next := low, low
		if h >= 5 {
			c = high
		}
		if h >= 4 {
			next = high
		}
		switch h {
		case 2:
			w.work(c, next, pays, bonds)
		case 7:
			w.work(c, next, api.Tx{Kind: api.TxPay, From: 3, To: 1, Amount: 10})
		default:
			w.work(c, next)
		}
	}
	return w
}

func accounts(t *testing.T, list ...api.Account) api.Ledger {
	t.Helper()
	l, e := ledger.New(list)
	is(t, "ledger.New", e, api.OK)
	return l
}

func seats(addrs ...api.Addr) (c api.Council) {
	for _, a := range addrs {
		c.Members = append(c.Members, api.Member{Addr: a, Power: 1})
	}
	return c
}

func (w *world) signer(a api.Addr) *seal.Signer {
	if w.signers[a] == nil {
		w.signers[a], _ = w.r.Enter(a)
	}
	return w.signers[a]
}

// work puts a block behind the chain, its transactions sealed and worked off.
func (w *world) work(c, next api.Council, txs ...api.Tx) {
	w.t.Helper()
	l := w.ledgers[len(w.ledgers)-1]
	for k, x := range txs {
		msg, e := wire.TxBytes(name, x)
		is(w.t, "TxBytes", e, api.OK)
		txs[k].Seal, _ = w.signer(x.From).Sign(msg)
		l, e = ledger.Apply(l, w.r, name, params, uint64(len(w.chain)), 0, txs[k])
		is(w.t, "ledger.Apply", e, api.OK)
	}
	w.grow(c, next, l, txs...)
}

// grow puts a block behind the chain, ten ticks behind the last one, signed by all of its council: with these transactions in it, and that ledger behind it, whether the one comes of the others or not.
func (w *world) grow(c, next api.Council, l api.Ledger, txs ...api.Tx) {
	w.t.Helper()
	k := len(w.chain)
	last := w.chain[k-1].Header
	h := api.Header{Chain: name, Height: last.Height + 1, Time: last.Time + 10, Proposer: 1, Council: digestOf(w.t, c), Next: digestOf(w.t, next)}
	if k > 1 {
		h.Last, _ = wire.BlockId(last)
	}
	var e api.Errno
	h.State, e = ledger.Root(w.ledgers[k-1])
	is(w.t, "ledger.Root", e, api.OK)
	h.Txs, e = wire.TxsRoot(txs)
	is(w.t, "TxsRoot", e, api.OK)
	w.chain = append(w.chain, w.signed(h, c))
	w.ledgers = append(w.ledgers, l)
	w.txs = append(w.txs, txs)
}

func digestOf(t *testing.T, c api.Council) api.Hash {
	t.Helper()
	h, e := council.Digest(c)
	is(t, "council.Digest", e, api.OK)
	return h
}

// signed is a light block of a header, signed by all of a council, or by some of it.
func (w *world) signed(h api.Header, c api.Council, by ...api.Addr) api.LightBlock {
	w.t.Helper()
	id, e := wire.BlockId(h)
	is(w.t, "BlockId", e, api.OK)
	u := api.LightBlock{Header: h, Cert: api.Cert{Height: h.Height, Id: id}, Council: c}
	for k, m := range c.Members {
		if len(by) > 0 && !slices.Contains(by, m.Addr) {
			continue
		}
		msg, e := wire.VoteBytes(name, api.Vote{Kind: api.Precommit, Height: h.Height, Id: id, Time: h.Time, From: m.Addr})
		is(w.t, "VoteBytes", e, api.OK)
		s, _ := w.signer(m.Addr).Sign(msg)
		u.Cert.Marks = append(u.Cert.Marks, api.Mark{Index: k, Time: h.Time, Seal: s})
	}
	return u
}

// client is one that trusts the block at a place.
func (w *world) client(at int, now uint64) *client.Client {
	w.t.Helper()
	c, e := client.New(params, name, w.r, w.chain[at], now)
	if e != api.OK || c == nil {
		w.t.Fatalf("S1: error %d", e)
	}
	return c
}

// follower is a client that trusts the first block, and then those of the heights.
func (w *world) follower(now uint64, heights ...uint64) *client.Client {
	w.t.Helper()
	c := w.client(1, now)
	for _, h := range heights {
		is(w.t, fmt.Sprint("S2: ", h), c.Follow(w.honest(), h, now), api.OK)
	}
	return c
}

// source answers as its functions say, and notes what it is asked for.
type source struct {
	light   func(height uint64) (api.LightBlock, api.Errno)
	account func(height uint64, a api.Addr) (api.Witness, api.Errno)
	tx      func(height uint64, at int) (api.Tx, api.Proof, api.Errno)
	asked   []string
}

func (s *source) Light(height uint64) (api.LightBlock, api.Errno) {
	s.asked = append(s.asked, fmt.Sprint("light ", height))
	return s.light(height)
}

func (s *source) Account(height uint64, a api.Addr) (api.Witness, api.Errno) {
	s.asked = append(s.asked, fmt.Sprint("account ", height, " ", a))
	return s.account(height, a)
}

func (s *source) Tx(height uint64, at int) (api.Tx, api.Proof, api.Errno) {
	s.asked = append(s.asked, fmt.Sprint("tx ", height, " ", at))
	return s.tx(height, at)
}

// wantAsked: this was asked for since it was last looked at.
func (s *source) wantAsked(t *testing.T, what string, asked ...string) {
	t.Helper()
	if !slices.Equal(s.asked, asked) {
		t.Errorf("%s: asked was %q, want %q", what, s.asked, asked)
	}
	s.asked = nil
}

// honest is a source that tells what is, and refuses with ErrNone where nothing is.
func (w *world) honest() *source {
	return &source{light: w.lightOf, account: w.witnessOf, tx: w.txOf}
}

func (w *world) lightOf(height uint64) (api.LightBlock, api.Errno) {
	if height <= w.base || height-w.base >= uint64(len(w.chain)) {
		return api.LightBlock{}, api.ErrNone
	}
	return w.chain[height-w.base], api.OK
}

func (w *world) witnessOf(height uint64, a api.Addr) (api.Witness, api.Errno) {
	if height < w.base || height-w.base >= uint64(len(w.ledgers)) {
		return api.Witness{}, api.ErrNone
	}
	return ledger.Prove(w.ledgers[height-w.base], a)
}

func (w *world) txOf(height uint64, at int) (api.Tx, api.Proof, api.Errno) {
	if height <= w.base || height-w.base >= uint64(len(w.txs)) || at < 0 || at >= len(w.txs[height-w.base]) {
		return api.Tx{}, api.Proof{}, api.ErrNone
	}
	l := w.txs[height-w.base]
	p, e := digest.Prove(forms(l), at)
	return l[at], p, e
}

func forms(l []api.Tx) (out [][]byte) {
	for _, x := range l {
		form, _ := wire.EncodeTx(x)
		out = append(out, form)
	}
	return out
}

func is(t *testing.T, what string, got, want api.Errno) {
	t.Helper()
	if got != want {
		t.Errorf("%s: error %d, want %d", what, got, want)
	}
}

// wantAccount: the client takes this account, or (the zero one) that there is none.
func wantAccount(t *testing.T, what string, c *client.Client, src client.Source, height uint64, a api.Addr, want api.Account) {
	t.Helper()
	x, there, e := c.Account(src, height, a)
	if e != api.OK || x != want || there != (want != api.Account{}) {
		t.Errorf("%s: account %d behind %d: %+v, %v, error %d, want %+v", what, a, height, x, there, e, want)
	}
}

func wantNoAccount(t *testing.T, what string, c *client.Client, src client.Source, height uint64, a api.Addr, want api.Errno) {
	t.Helper()
	x, there, e := c.Account(src, height, a)
	if e != want || x != (api.Account{}) || there {
		t.Errorf("%s: account %d behind %d: %+v, %v, error %d, want %d", what, a, height, x, there, e, want)
	}
}

func wantTx(t *testing.T, what string, c *client.Client, src client.Source, height uint64, at int, want api.Tx) {
	t.Helper()
	if x, e := c.Tx(src, height, at); e != api.OK || x != want {
		t.Errorf("%s: transaction %d of %d: %+v, error %d, want %+v", what, at, height, x, e, want)
	}
}

func wantNoTx(t *testing.T, what string, c *client.Client, src client.Source, height uint64, at int, want api.Errno) {
	t.Helper()
	if x, e := c.Tx(src, height, at); e != want || x != (api.Tx{}) {
		t.Errorf("%s: transaction %d of %d: %+v, error %d, want %d", what, at, height, x, e, want)
	}
}

// wantTrusted: just the headers of these heights are trusted, and they are the chain's: of no other is anything asked, and what an honest source shows is taken.
func (w *world) wantTrusted(what string, c *client.Client, heights ...uint64) {
	w.t.Helper()
	if got, want := c.Latest(), heights[len(heights)-1]; got != want {
		w.t.Errorf("%s: the latest is %d, want %d", what, got, want)
	}
	s := w.honest()
	for k := range w.chain {
		h := w.base + uint64(k)
		if !slices.Contains(heights, h+1) {
			wantNoAccount(w.t, what, c, s, h, 1, api.ErrNone)
			wantNoTx(w.t, what, c, s, h+1, 0, api.ErrNone)
			s.wantAsked(w.t, what)
			continue
		}
		x, _ := ledger.Find(w.ledgers[k], 1)
		wantAccount(w.t, what, c, s, h, 1, x)
		for at, x := range w.txs[k+1] {
			wantTx(w.t, what, c, s, h+1, at, x)
		}
		s.asked = nil
	}
}
