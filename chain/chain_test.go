package chain_test

import (
	"reflect"
	"slices"
	"testing"

	"assent/api"
	"assent/chain"
	"assent/council"
	"assent/ledger"
	"assent/seal"
	"assent/wire"
)

const name = "c"

// world is a registry with its signers, and the state that a chain has come to.
type world struct {
	t       *testing.T
	r       *seal.Registry
	signers map[api.Addr]*seal.Signer
	st      api.State
}

var fit = api.Params{MinBond: 1, Seats: 4, Slash: 500, Period: 5, Age: 2, MaxTxs: 10, Propose: 1, Votes: 1, Resend: 1, Trusting: 1}

// genesis is that of the chapter's examples: 1 to 4 with the bond 10 each.
func genesis() api.Genesis {
	g := api.Genesis{Chain: name, Time: 1000, Params: fit}
	for a := api.Addr(1); a <= 4; a++ {
		g.Accounts = append(g.Accounts, api.Account{Addr: a, Balance: 100, Bond: 10})
	}
	return g
}

func newWorld(t *testing.T, g api.Genesis) *world {
	t.Helper()
	st, e := chain.Begin(g)
	if e != api.OK {
		t.Fatalf("C1: Begin: error %d", e)
	}
	return &world{t: t, r: seal.New(), signers: map[api.Addr]*seal.Signer{}, st: st}
}

// examples is the chain of the chapter's examples, behind so many blocks without anything.
func examples(t *testing.T, blocks int) *world {
	t.Helper()
	w := newWorld(t, genesis())
	w.grow(blocks)
	return w
}

func (w *world) grow(blocks int) {
	w.t.Helper()
	for range blocks {
		w.on(w.block(nil, nil))
	}
}

func (w *world) signer(a api.Addr) *seal.Signer {
	if w.signers[a] == nil {
		w.signers[a], _ = w.r.Enter(a)
	}
	return w.signers[a]
}

func (w *world) vote(v api.Vote) api.Vote {
	w.t.Helper()
	msg, e := wire.VoteBytes(w.st.Chain, v)
	if e != api.OK {
		w.t.Fatalf("VoteBytes of %v: error %d", v, e)
	}
	v.Seal, _ = w.signer(v.From).Sign(msg)
	return v
}

// certBy is a certificate of a block by these places of a council, each at its time.
func (w *world) certBy(c api.Council, height uint64, round int, id api.Hash, places []int, time func(place int) uint64) api.Cert {
	w.t.Helper()
	x := api.Cert{Height: height, Round: round, Id: id}
	for _, k := range places {
		v := w.vote(api.Vote{Kind: api.Precommit, Height: height, Round: round, Id: id, Time: time(k), From: c.Members[k].Addr})
		x.Marks = append(x.Marks, api.Mark{Index: k, Time: v.Time, Seal: v.Seal})
	}
	return x
}

func upTo(n int) (places []int) {
	for k := range n {
		places = append(places, k)
	}
	return places
}

func at(time uint64) func(int) uint64 { return func(int) uint64 { return time } }

// ahead is who decided the block that the state is behind.
func (w *world) ahead() api.Council { return w.st.Past[len(w.st.Past)-1].Council }

// cert is one of the block ahead, by all, at one time; the zero one at the beginning.
func (w *world) cert(time uint64) api.Cert {
	w.t.Helper()
	if w.st.Height == 0 {
		return api.Cert{}
	}
	c := w.ahead()
	return w.certBy(c, w.st.Height, 0, w.st.Last, upTo(len(c.Members)), at(time))
}

func (w *world) block(txs []api.Tx, evidence []api.Evidence) api.Block {
	w.t.Helper()
	b, e := chain.Make(w.st, w.r, txs, evidence, w.cert(w.st.Time+5), w.st.Council.Members[0].Addr)
	if e != api.OK {
		w.t.Fatalf("C5: Make behind %d: error %d", w.st.Height, e)
	}
	return b
}

func (w *world) on(b api.Block) {
	w.t.Helper()
	st, e := chain.Apply(w.st, w.r, b)
	if e != api.OK {
		w.t.Fatalf("C7: Apply behind %d: error %d", w.st.Height, e)
	}
	w.st = st
}

func (w *world) valid(what string, b api.Block, want api.Errno) {
	w.t.Helper()
	if e := chain.Valid(w.st, w.r, b); e != want {
		w.t.Errorf("C6: %s: error %d, want %d", what, e, want)
	}
	w.apply(what, b, want)
}

// apply: P12.2: Apply is refused as Valid is, and what it answers beside an error is the zero state.
func (w *world) apply(what string, b api.Block, want api.Errno) {
	w.t.Helper()
	st, e := chain.Apply(w.st, w.r, b)
	if e != want {
		w.t.Errorf("C7: %s: error %d, want %d", what, e, want)
	}
	if e != api.OK && !reflect.DeepEqual(st, api.State{}) {
		w.t.Errorf("G2: %s: a state beside the error %d", what, e)
	}
}

// sealed has the seal of its From, for the chain.
func (w *world) sealed(x api.Tx) api.Tx {
	w.t.Helper()
	msg, e := wire.TxBytes(w.st.Chain, x)
	if e != api.OK {
		w.t.Fatalf("TxBytes of %v: error %d", x, e)
	}
	x.Seal, _ = w.signer(x.From).Sign(msg)
	return x
}

func (w *world) account(a api.Addr) api.Account {
	acc, _ := ledger.Find(w.st.Ledger, a)
	return acc
}

// due is a transaction with the nonce that is due, and skip more.
func (w *world) due(x api.Tx, skip uint64) api.Tx {
	w.t.Helper()
	x.Nonce = w.account(x.From).Nonce + skip
	return w.sealed(x)
}

func (w *world) pay(from, to api.Addr, amount, fee, skip uint64) api.Tx {
	w.t.Helper()
	return w.due(api.Tx{Kind: api.TxPay, From: from, To: to, Amount: amount, Fee: fee}, skip)
}

// proof is evidence of two votes at a height, one of many that a member may have given.
func (w *world) proof(height uint64, from api.Addr, kind, round int) api.Evidence {
	w.t.Helper()
	v := api.Vote{Kind: kind, Height: height, Round: round, Id: api.Hash{1}, From: from}
	u := v
	u.Id = api.Hash{2}
	return api.Evidence{A: w.vote(v), B: w.vote(u)}
}

func (w *world) ev(height uint64, from api.Addr) api.Evidence {
	w.t.Helper()
	return w.proof(height, from, api.Prevote, 0)
}

// bound is the block with the digests in its header that belong to what it holds by now.
func (w *world) bound(b api.Block) api.Block {
	w.t.Helper()
	h := &b.Header
	h.Council, _ = council.Digest(w.st.Council)
	h.Next, _ = council.Digest(w.st.Next)
	h.State, _ = ledger.Root(w.st.Ledger)
	h.Txs, _ = wire.TxsRoot(b.Txs)
	h.Evidence, _ = wire.EvidenceRoot(b.Evidence)
	h.Cert, _ = wire.CertId(b.Last)
	if w.st.Height == 0 {
		h.Cert = api.Hash{}
	}
	return b
}

func addrs(c api.Council) (list []api.Addr) {
	for _, m := range c.Members {
		list = append(list, m.Addr)
	}
	return list
}

func TestExampleBegin(t *testing.T) {
	st := examples(t, 0).st
	if st.Height != 0 || st.Time != 1000 || st.Last != (api.Hash{}) {
		t.Errorf("C1: %v", st)
	}
	for _, m := range st.Council.Members {
		if m.Power != 10 {
			t.Errorf("C1: %v", m)
		}
	}
	if want := []api.Addr{1, 2, 3, 4}; !slices.Equal(addrs(st.Council), want) || !slices.Equal(addrs(st.Next), want) {
		t.Errorf("C1: councils %v, %v", st.Council, st.Next)
	}
	g := genesis()
	g.Params.Period = 4
	wantNoBegin(t, "Period 4", g, api.ErrArg)
	g = genesis()
	for k := range g.Accounts {
		g.Accounts[k].Bond = 0
	}
	wantNoBegin(t, "all bonds 0", g, api.ErrEmpty)
}

func TestExampleFirst(t *testing.T) {
	w := examples(t, 0)
	b, e := chain.Make(w.st, w.r, nil, nil, api.Cert{}, 2)
	if e != api.OK || b.Header.Height != 1 || b.Header.Time != 1000 || b.Header.Last != (api.Hash{}) || b.Header.Cert != (api.Hash{}) || b.Header.Proposer != 2 {
		t.Errorf("C5: %v, error %d", b.Header, e)
	}
	if _, e := chain.Make(w.st, w.r, nil, nil, api.Cert{}, 9); e != api.ErrTurn {
		t.Errorf("C5: proposer 9: error %d", e)
	}
	if _, e := chain.Make(w.st, w.r, nil, nil, api.Cert{Height: 1, Id: api.Hash{1}}, 2); e != api.ErrCert {
		t.Errorf("C5: a certificate: error %d", e)
	}
	w.valid("as it was made", b, api.OK)
	b.Header.Time = 1001
	w.valid("at 1001", b, api.ErrTime)
}

func TestExampleMedian(t *testing.T) {
	c := examples(t, 0).st.Council
	for _, x := range []struct {
		times []uint64
		want  uint64
	}{{[]uint64{5, 9, 7}, 7}, {[]uint64{5, 9}, 9}, {[]uint64{6}, 6}} {
		cert := api.Cert{Height: 1, Id: api.Hash{1}}
		for k, time := range x.times {
			cert.Marks = append(cert.Marks, api.Mark{Index: k, Time: time})
		}
		if got, e := chain.Median(c, cert); got != x.want || e != api.OK {
			t.Errorf("C2: of %v: %d, error %d, want %d", x.times, got, e, x.want)
		}
	}
}

func TestExampleCert(t *testing.T) {
	w := examples(t, 1)
	check := func(what string, x api.Cert, want api.Errno) {
		t.Helper()
		if e := chain.CheckCert(w.ahead(), w.r, name, x); e != want {
			t.Errorf("C3: %s: error %d, want %d", what, e, want)
		}
	}
	of := func(places ...int) api.Cert { return w.certBy(w.ahead(), 1, 0, w.st.Last, places, at(1005)) }
	check("30 of 40", of(0, 1, 2), api.OK)
	check("20 of 40", of(0, 1), api.ErrQuorum)
	x := of(0, 1, 2)
	x.Marks[1].Seal = w.certBy(w.ahead(), 1, 0, w.st.Last, []int{1}, at(1006)).Marks[0].Seal
	check("a seal of another time", x, api.ErrSeal)
	x = of(0, 1, 2)
	x.Marks[2].Index = 4
	check("Index 4", x, api.ErrMember)
}

func TestExampleLine(t *testing.T) {
	w := examples(t, 0)
	first, next := w.st.Council, w.st.Next
	w.grow(1)
	if want := []api.Past{{Height: 1, Time: 1000, Council: first}}; w.st.Height != 1 || !reflect.DeepEqual(w.st.Past, want) || !reflect.DeepEqual(w.st.Council, next) {
		t.Errorf("C7: behind block 1: %v", w.st)
	}
	for _, time := range []uint64{999, 1000} {
		if _, e := chain.Make(w.st, w.r, nil, nil, w.cert(time), 1); e != api.ErrTime {
			t.Errorf("C5: the median %d: error %d", time, e)
		}
		b := w.block(nil, nil)
		b.Last = w.cert(time)
		b.Header.Time = time
		w.valid("a median that is not above 1000", w.bound(b), api.ErrTime)
	}
	b, e := chain.Make(w.st, w.r, nil, nil, w.cert(1001), 1)
	if e != api.OK || b.Header.Time != 1001 {
		t.Errorf("C5: the median 1001: %d, error %d", b.Header.Time, e)
	}
	w.on(b)
	w.grow(1)
	if len(w.st.Past) != 2 || w.st.Past[0].Height != 2 || w.st.Past[1].Height != 3 {
		t.Errorf("C7: behind block 3: %v", w.st.Past)
	}
}

func TestExampleEvidence(t *testing.T) {
	w := examples(t, 1)
	ev := w.ev(1, 3)
	w.on(w.block(nil, []api.Evidence{ev}))
	if acc := w.account(3); acc.Bond != 5 || !acc.Jailed {
		t.Errorf("C7: %v", acc)
	}
	if got := addrs(w.st.Next); !slices.Equal(got, []api.Addr{1, 2, 4}) {
		t.Errorf("C7: Next %v", got)
	}
	b := w.block(nil, nil)
	b.Evidence = []api.Evidence{ev}
	w.valid("the same evidence again", w.bound(b), api.ErrDone)
}

func TestExampleTwice(t *testing.T) {
	w := examples(t, 0)
	x := w.pay(1, 2, 30, 2, 0)
	b := w.block([]api.Tx{x, x}, nil)
	if !slices.Equal(b.Txs, []api.Tx{x}) {
		t.Errorf("C5: %v", b.Txs)
	}
	b.Txs = []api.Tx{x, x}
	w.valid("the same payment twice", w.bound(b), api.ErrNonce)
}
