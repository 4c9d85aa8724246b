package chain_test

import (
	"math/big"
	"math/rand"
	"reflect"
	"slices"
	"testing"

	"assent/api"
	"assent/chain"
	"assent/council"
	"assent/ledger"
	"assent/misdeed"
	"assent/seal"
	"assent/wire"
)

// What follows says the rules once more, by another hand, one sentence behind the other.

// modelFits reckons in whole numbers of any size.
func modelFits(p api.Params) bool {
	from := func(least int64, n uint64, most int64) bool {
		x := new(big.Int).SetUint64(n)
		return x.Cmp(big.NewInt(least)) >= 0 && x.Cmp(big.NewInt(most)) <= 0
	}
	period := new(big.Int).SetUint64(p.Period)
	isAbove := period.Cmp(new(big.Int).Add(new(big.Int).SetUint64(p.Age), big.NewInt(2))) > 0
	for _, ticks := range []uint64{p.Propose, p.Votes, p.Resend, p.Trusting} {
		if !from(1, ticks, 1<<32) {
			return false
		}
	}
	return from(1, p.MinBond, 1<<60-1) && p.Seats >= 1 && p.Seats <= 64 && from(0, p.Slash, 1000) && from(1, p.Age, 256) &&
		isAbove && from(0, p.Period, 1<<32) && p.MaxTxs >= 0 && p.MaxTxs <= 1000 && from(0, p.Pause, 1<<32) && from(0, p.Drift, 1<<32)
}

func modelSound(st api.State) bool {
	if len(st.Chain) < 1 || len(st.Chain) > 16 || !modelFits(st.Params) || st.Height > 1<<40 || st.Time > 1<<50 {
		return false
	}
	if council.Sound(st.Council) != api.OK || council.Sound(st.Next) != api.OK || ledger.Sound(st.Ledger) != api.OK {
		return false
	}
	if st.Height == 0 && st.Last != (api.Hash{}) || st.Height != 0 && st.Last == (api.Hash{}) {
		return false
	}
	var heights []uint64
	for h := max(1, int64(st.Height)+1-int64(st.Params.Age)); h <= int64(st.Height); h++ {
		heights = append(heights, uint64(h))
	}
	if len(st.Past) != len(heights) {
		return false
	}
	for k, p := range st.Past {
		if p.Height != heights[k] || p.Time > 1<<50 || council.Sound(p.Council) != api.OK {
			return false
		}
	}
	for k, o := range st.Punished {
		if !slices.Contains(heights, o.Height) || o.Addr == 0 {
			return false
		}
		if k > 0 && (o.Height < st.Punished[k-1].Height || o.Height == st.Punished[k-1].Height && o.Addr <= st.Punished[k-1].Addr) {
			return false
		}
	}
	return true
}

func modelCheck(c api.Council, r *seal.Registry, name string, x api.Cert) api.Errno {
	if e := council.Sound(c); e != api.OK {
		return e
	}
	if e := wire.PlainCert(x); e != api.OK {
		return e
	}
	if x.Height == 0 {
		return api.ErrCert
	}
	for _, m := range x.Marks {
		if m.Index >= len(c.Members) {
			return api.ErrMember
		}
	}
	var power uint64
	for _, m := range x.Marks {
		member := c.Members[m.Index]
		msg, e := wire.VoteBytes(name, api.Vote{Kind: api.Precommit, Height: x.Height, Round: x.Round, Id: x.Id, Time: m.Time, From: member.Addr})
		if e != api.OK {
			return e
		}
		if !r.Check(member.Addr, msg, m.Seal) {
			return api.ErrSeal
		}
		power += member.Power
	}
	if 3*power <= 2*council.Total(c) {
		return api.ErrQuorum
	}
	return api.OK
}

// modelAhead is C4, and the due time; 0 stands for none.
func modelAhead(st api.State, r *seal.Registry, last api.Cert) (uint64, bool, api.Errno) {
	if st.Height == 0 {
		if last.Height != 0 || last.Round != 0 || last.Id != (api.Hash{}) || len(last.Marks) != 0 {
			return 0, false, api.ErrCert
		}
		return st.Time, true, api.OK
	}
	if last.Height != st.Height || last.Id != st.Last {
		return 0, false, api.ErrCert
	}
	c := st.Past[len(st.Past)-1].Council
	if e := modelCheck(c, r, st.Chain, last); e != api.OK {
		return 0, false, e
	}
	time := modelMedian(c, last)
	return time, time > st.Time, api.OK
}

func modelHeader(st api.State, b api.Block) api.Header {
	h := api.Header{Chain: st.Chain, Height: st.Height + 1, Last: st.Last, Time: b.Header.Time, Proposer: b.Header.Proposer}
	h.Council, _ = council.Digest(st.Council)
	h.Next, _ = council.Digest(st.Next)
	h.State, _ = ledger.Root(st.Ledger)
	h.Txs, _ = wire.TxsRoot(b.Txs)
	h.Evidence, _ = wire.EvidenceRoot(b.Evidence)
	if st.Height > 0 {
		h.Cert, _ = wire.CertId(b.Last)
	}
	return h
}

func modelValid(st api.State, r *seal.Registry, b api.Block) (api.Ledger, api.Errno) {
	no := func(e api.Errno) (api.Ledger, api.Errno) { return api.Ledger{}, e }
	if !modelSound(st) {
		return no(api.ErrArg)
	}
	if e := wire.PlainBlock(b); e != api.OK {
		return no(e)
	}
	h, want := b.Header, modelHeader(st, b)
	switch {
	case h.Chain != want.Chain:
		return no(api.ErrChain)
	case st.Height == 1<<40 || h.Height != want.Height:
		return no(api.ErrHeight)
	case h.Last != want.Last:
		return no(api.ErrLast)
	case h.Council != want.Council || h.Next != want.Next:
		return no(api.ErrSeats)
	case h != want:
		return no(api.ErrRoots)
	case council.Index(st.Council, h.Proposer) < 0:
		return no(api.ErrTurn)
	}
	if time, due, e := modelAhead(st, r, b.Last); e != api.OK {
		return no(e)
	} else if !due || time != h.Time {
		return no(api.ErrTime)
	}
	if len(b.Txs) > st.Params.MaxTxs {
		return no(api.ErrBig)
	}
	for k := 1; k < len(b.Evidence); k++ {
		x, y := b.Evidence[k-1].A, b.Evidence[k].A
		if x.Height > y.Height || x.Height == y.Height && x.From >= y.From {
			return no(api.ErrOrder)
		}
	}
	for _, v := range b.Evidence {
		if e := misdeed.Verify(st, r, v); e != api.OK {
			return no(e)
		}
	}
	return modelWork(st, r, b)
}

func modelWork(st api.State, r *seal.Registry, b api.Block) (l api.Ledger, e api.Errno) {
	if l, e = ledger.Pay(st.Ledger, st.Height+1); e != api.OK {
		return api.Ledger{}, e
	}
	for _, v := range b.Evidence {
		if l, e = ledger.Punish(l, st.Params, v.A.From, v.A.Height); e != api.OK {
			return api.Ledger{}, e
		}
	}
	for _, x := range b.Txs {
		if l, e = ledger.Apply(l, r, st.Chain, st.Params, st.Height+1, b.Header.Proposer, x); e != api.OK {
			return api.Ledger{}, e
		}
	}
	return l, api.OK
}

func modelApply(st api.State, r *seal.Registry, b api.Block) (api.State, api.Errno) {
	l, e := modelValid(st, r, b)
	if e != api.OK {
		return api.State{}, e
	}
	next := api.State{Chain: st.Chain, Params: st.Params, Height: st.Height + 1, Time: b.Header.Time, Council: st.Next, Ledger: l}
	next.Last, _ = wire.BlockId(b.Header)
	next.Next, _ = council.Turn(st.Next, 1)
	if seats := ledger.Seats(l, st.Params); len(seats) > 0 {
		next.Next, _ = council.Renew(next.Next, seats)
	}
	next.Past = append(slices.Clone(st.Past), api.Past{Height: next.Height, Time: next.Time, Council: st.Council})
	if len(next.Past) > int(st.Params.Age) {
		next.Past = slices.Delete(next.Past, 0, 1)
	}
	for _, p := range next.Past { // of each height: who was punished for it, by rising address
		var who []api.Addr
		for _, o := range st.Punished {
			if o.Height == p.Height {
				who = append(who, o.Addr)
			}
		}
		for _, v := range b.Evidence {
			if v.A.Height == p.Height {
				who = append(who, v.A.From)
			}
		}
		slices.Sort(who)
		for _, a := range who {
			next.Punished = append(next.Punished, api.Offence{Height: p.Height, Addr: a})
		}
	}
	return next, api.OK
}

func modelMake(st api.State, r *seal.Registry, txs []api.Tx, evidence []api.Evidence, last api.Cert, proposer api.Addr) (api.Block, api.Errno) {
	if !modelSound(st) {
		return api.Block{}, api.ErrArg
	}
	if st.Height == 1<<40 {
		return api.Block{}, api.ErrHeight
	}
	if council.Index(st.Council, proposer) < 0 {
		return api.Block{}, api.ErrTurn
	}
	time, due, e := modelAhead(st, r, last)
	if e != api.OK {
		return api.Block{}, e
	}
	if !due {
		return api.Block{}, api.ErrTime
	}
	b := api.Block{Header: api.Header{Time: time, Proposer: proposer}, Last: last}
	taken := map[api.Offence]bool{}
	for _, v := range evidence {
		o := api.Offence{Height: v.A.Height, Addr: v.A.From}
		if len(taken) < 16 && !taken[o] && misdeed.Verify(st, r, v) == api.OK {
			taken[o] = true
			b.Evidence = append(b.Evidence, v)
		}
	}
	slices.SortStableFunc(b.Evidence, func(x, y api.Evidence) int {
		if x.A.Height < y.A.Height || x.A.Height == y.A.Height && x.A.From < y.A.From {
			return -1
		}
		return 1
	})
	if _, e := modelWork(st, r, b); e != api.OK {
		return api.Block{}, e
	}
	for _, x := range txs { // one is taken, if all are worked off with it as the last
		more := b
		more.Txs = append(slices.Clone(b.Txs), x)
		if _, e := modelWork(st, r, more); e == api.OK && len(more.Txs) <= st.Params.MaxTxs {
			b = more
		}
	}
	b.Header = modelHeader(st, b)
	return b, api.OK
}

// likeState: nil lists and empty ones are the same.
func likeState(x, y api.State) bool {
	tidy := func(st api.State) api.State {
		st = copyState(st)
		st.Past = append([]api.Past(nil), st.Past...)
		st.Punished = append([]api.Offence(nil), st.Punished...)
		st.Ledger.Releases = append([]api.Release(nil), st.Ledger.Releases...)
		return st
	}
	return reflect.DeepEqual(tidy(x), tidy(y))
}

func likeBlock(x, y api.Block) bool {
	return x.Header == y.Header && slices.Equal(x.Txs, y.Txs) && slices.Equal(x.Evidence, y.Evidence) &&
		x.Last.Height == y.Last.Height && x.Last.Round == y.Last.Round && x.Last.Id == y.Last.Id && slices.Equal(x.Last.Marks, y.Last.Marks)
}

func someGenesis(r *rand.Rand) api.Genesis {
	g := genesis()
	g.Time = uint64(r.Intn(50))
	g.Params.Age = uint64(1 + r.Intn(4))
	g.Params.Period = g.Params.Age + 3 + uint64(r.Intn(3))
	g.Params.Seats, g.Params.MaxTxs = 1+r.Intn(6), r.Intn(7)
	g.Params.MinBond, g.Params.Slash = uint64(1+r.Intn(8)), []uint64{0, 1, 333, 500, 1000}[r.Intn(5)]
	g.Accounts = nil
	for a := api.Addr(1); a <= 7; a++ {
		g.Accounts = append(g.Accounts, api.Account{Addr: a, Balance: uint64(r.Intn(80)), Bond: uint64(r.Intn(30))})
	}
	g.Accounts[r.Intn(7)].Bond = 25
	return g
}

func (w *world) someTx(r *rand.Rand) api.Tx {
	x := api.Tx{Kind: 1 + r.Intn(4), From: api.Addr(1 + r.Intn(8)), Amount: uint64(r.Intn(25)), Fee: uint64(r.Intn(4))}
	switch x.Kind {
	case api.TxPay:
		x.To = api.Addr(1 + r.Intn(10))
	case api.TxFree:
		x.Amount = 0
	}
	x = w.due(x, []uint64{0, 0, 0, 1, 2}[r.Intn(5)])
	if r.Intn(20) == 0 {
		x.Seal[r.Intn(16)]++
	}
	return x
}

func (w *world) someEvidence(r *rand.Rand) api.Evidence {
	height := max(1, int(w.st.Height)+1-r.Intn(int(w.st.Params.Age)+2))
	v := w.proof(uint64(height), api.Addr(1+r.Intn(8)), 1+r.Intn(2), r.Intn(2))
	if n := len(w.st.Punished); n > 0 && r.Intn(3) == 0 {
		o := w.st.Punished[r.Intn(n)]
		v = w.proof(o.Height, o.Addr, api.Prevote, r.Intn(2))
	}
	switch r.Intn(12) {
	case 0:
		v.A, v.B = v.B, v.A
	case 1:
		v.B.Seal[0]++
	}
	return v
}

// someCert is one of the block ahead, mostly good.
func (w *world) someCert(r *rand.Rand) api.Cert {
	if w.st.Height == 0 {
		if r.Intn(10) == 0 {
			return api.Cert{Height: 1, Id: api.Hash{1}}
		}
		return api.Cert{}
	}
	c := w.ahead()
	var places []int
	for k := range c.Members {
		if r.Intn(12) > 0 {
			places = append(places, k)
		}
	}
	times := r.Intn(8)
	x := w.certBy(c, w.st.Height, r.Intn(3), w.st.Last, places, func(int) uint64 { return w.st.Time + uint64(r.Intn(times+1)+r.Intn(2)) })
	if r.Intn(25) == 0 && len(x.Marks) > 0 {
		x.Marks[r.Intn(len(x.Marks))].Time++
	}
	if r.Intn(40) == 0 {
		x.Height++
	}
	return x
}

func (w *world) someLists(r *rand.Rand) (txs []api.Tx, evidence []api.Evidence) {
	for range r.Intn(9) {
		txs = append(txs, w.someTx(r))
	}
	if r.Intn(3) == 0 {
		for range r.Intn(4) {
			evidence = append(evidence, w.someEvidence(r))
		}
	}
	return txs, evidence
}

// someBent is the block with something else in it, with its digests reckoned anew or not.
func (w *world) someBent(r *rand.Rand, b api.Block) api.Block {
	b = copyBlock(b)
	for range 1 + r.Intn(2) {
		switch r.Intn(12) {
		case 0:
			b.Txs = append(b.Txs, w.someTx(r))
		case 1:
			b.Evidence = append(b.Evidence, w.someEvidence(r))
		case 2:
			b.Last = w.someCert(r)
		case 3:
			b.Header.Time += uint64(r.Intn(3)) - 1
		case 4:
			b.Header.Proposer = api.Addr(r.Intn(9))
		case 5:
			b.Header.Height += uint64(r.Intn(3)) - 1
		case 6:
			b.Header.Chain += []string{"", "", "d"}[r.Intn(3)]
		case 7:
			slices.Reverse(b.Evidence)
		case 8:
			slices.Reverse(b.Txs)
		case 9:
			b.Header.Last[0] ^= byte(r.Intn(2))
		case 10:
			b.Txs = b.Txs[:r.Intn(len(b.Txs)+1)]
		case 11:
			h := []*api.Hash{&b.Header.Council, &b.Header.Next, &b.Header.State, &b.Header.Txs, &b.Header.Evidence, &b.Header.Cert}
			h[r.Intn(6)][r.Intn(32)] ^= byte(1 + r.Intn(255))
			return b
		}
	}
	if r.Intn(5) > 0 {
		b = w.bound(b)
	}
	return b
}

// wantAsModel holds Valid and Apply against the other hand.
func (w *world) wantAsModel(b api.Block, answers map[api.Errno]int) {
	w.t.Helper()
	want, refusal := modelApply(w.st, w.r, b)
	answers[refusal]++
	if e := chain.Valid(w.st, w.r, b); e != refusal {
		w.t.Fatalf("C6: behind %d: error %d, want %d: %v", w.st.Height, e, refusal, b)
	}
	if got, e := chain.Apply(w.st, w.r, b); e != refusal || !likeState(got, want) {
		w.t.Fatalf("C7: behind %d: %v, error %d, want %v, error %d", w.st.Height, got, e, want, refusal)
	}
}

// TestByAnotherHand plays chains of some blocks, with blocks bent beside, and looks at P12.1 to P12.3, P12.5 and P12.7 on the way.
func TestByAnotherHand(t *testing.T) {
	r := rand.New(rand.NewSource(123))
	made, answers := map[api.Errno]int{}, map[api.Errno]int{}
	txs, offences, heights := 0, 0, 0
	for range 60 {
		w := newWorld(t, someGenesis(r))
		line := newLine(w)
		for range 40 {
			list, evidence := w.someLists(r)
			last, proposer := w.someCert(r), w.st.Council.Members[r.Intn(len(w.st.Council.Members))].Addr
			if r.Intn(15) == 0 {
				proposer = api.Addr(r.Intn(9))
			}
			want, refusal := modelMake(w.st, w.r, list, evidence, last, proposer)
			made[refusal]++
			b, e := chain.Make(w.st, w.r, list, evidence, last, proposer)
			if e != refusal || !likeBlock(b, want) {
				t.Fatalf("C5: behind %d: %v, error %d, want %v, error %d", w.st.Height, b, e, want, refusal)
			}
			if e != api.OK {
				continue
			}
			w.wantAsModel(b, answers)
			for range 3 {
				w.wantAsModel(w.someBent(r, b), answers)
			}
			line.on(b)
			txs, offences, heights = txs+len(b.Txs), offences+len(b.Evidence), heights+1
		}
	}
	for _, e := range []api.Errno{api.OK, api.ErrTurn, api.ErrCert, api.ErrSeal, api.ErrQuorum, api.ErrTime} {
		if made[e] < 15 {
			t.Errorf("Make answered the error %d only %d times", e, made[e])
		}
	}
	for _, e := range []api.Errno{api.OK, api.ErrChain, api.ErrHeight, api.ErrLast, api.ErrSeats, api.ErrRoots, api.ErrTurn, api.ErrCert, api.ErrSeal, api.ErrQuorum, api.ErrTime, api.ErrBig, api.ErrOrder, api.ErrMember, api.ErrNonce, api.ErrFunds, api.ErrDone} {
		if answers[e] < 5 {
			t.Errorf("Valid answered the error %d only %d times", e, answers[e])
		}
	}
	if txs < 500 || offences < 50 || heights < 1000 {
		t.Errorf("only %d transactions and %d offences in %d blocks", txs, offences, heights)
	}
}

// line is a chain that looks at what is promised along it.
type line struct {
	*world
	supply   uint64
	nonces   map[api.Offence]bool // of an address: the nonces that stand in the chain, as heights
	punished map[api.Offence]bool
	first    api.State
	blocks   []api.Block
}

func newLine(w *world) *line {
	return &line{world: w, supply: w.st.Ledger.Supply, nonces: map[api.Offence]bool{}, punished: map[api.Offence]bool{}, first: w.st}
}

func once(t *testing.T, seen map[api.Offence]bool, what string, o api.Offence) {
	t.Helper()
	if seen[o] {
		t.Fatalf("P12.7: %s %v stands twice", what, o)
	}
	seen[o] = true
}

func (l *line) on(b api.Block) {
	l.t.Helper()
	was := l.st
	l.world.on(b)
	if !modelSound(l.st) {
		l.t.Fatalf("P12.2: %v is not sound", l.st)
	}
	if again, _ := chain.Apply(was, l.r, b); !reflect.DeepEqual(again, l.st) {
		l.t.Fatalf("P12.2: played again it is another one")
	}
	if e := ledger.Sound(l.st.Ledger); e != api.OK || l.st.Ledger.Supply != l.supply || l.st.Ledger.Burnt < was.Ledger.Burnt {
		l.t.Fatalf("P12.3: %v behind %v, error %d", l.st.Ledger, was.Ledger, e)
	}
	if was.Height == 0 && l.st.Time != was.Time || was.Height > 0 && l.st.Time <= was.Time {
		l.t.Fatalf("P12.5: time %d behind %d", l.st.Time, was.Time)
	}
	for _, x := range b.Txs {
		once(l.t, l.nonces, "a nonce", api.Offence{Height: x.Nonce, Addr: x.From})
	}
	for _, v := range b.Evidence {
		once(l.t, l.punished, "an offence", api.Offence{Height: v.A.Height, Addr: v.A.From})
	}
	if !reflect.DeepEqual(l.st.Council, was.Next) {
		l.t.Fatalf("P12.8: Council %v, want %v", l.st.Council, was.Next)
	}
	l.blocks = append(l.blocks, b)
	if len(l.blocks)%20 == 0 {
		l.again()
	}
}

// again plays all blocks from the beginning; what was signed since then makes no difference.
func (l *line) again() {
	l.t.Helper()
	st := l.first
	for _, b := range l.blocks {
		var e api.Errno
		if st, e = chain.Apply(st, l.r, b); e != api.OK {
			l.t.Fatalf("P12.1: block %d, played again: error %d", b.Header.Height, e)
		}
	}
	if !reflect.DeepEqual(st, l.st) {
		l.t.Fatalf("P12.2: played from the beginning it is another one")
	}
}

// TestStatesByAnotherHand: states that are bent, or of whatever content, are refused as the other hand refuses them.
func TestStatesByAnotherHand(t *testing.T) {
	w := examples(t, 3)
	b := w.block(nil, nil)
	for _, x := range stateBends() {
		for _, y := range stateBends() {
			st := copyState(w.st)
			x.bend(&st)
			if len(st.Past) < 2 || len(st.Ledger.Accounts) == 0 {
				continue
			}
			y.bend(&st)
			_, want := modelValid(st, w.r, b)
			if e := chain.Valid(st, w.r, b); e != want {
				t.Errorf("C6: %s, %s: error %d, want %d", x.what, y.what, e, want)
			}
		}
	}
}
