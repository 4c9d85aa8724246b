package chain_test

import (
	"fmt"
	"math"
	"slices"
	"testing"

	"assent/api"
	"assent/chain"
	"assent/ledger"
	"assent/seal"
)

// copyBlock has lists of its own.
func copyBlock(b api.Block) api.Block {
	b.Txs, b.Evidence, b.Last.Marks = slices.Clone(b.Txs), slices.Clone(b.Evidence), slices.Clone(b.Last.Marks)
	return b
}

// copyState has lists of its own.
func copyState(st api.State) api.State {
	councilOf := func(c api.Council) api.Council { return api.Council{Members: slices.Clone(c.Members)} }
	st.Council, st.Next = councilOf(st.Council), councilOf(st.Next)
	st.Past, st.Punished = slices.Clone(st.Past), slices.Clone(st.Punished)
	for k := range st.Past {
		st.Past[k].Council = councilOf(st.Past[k].Council)
	}
	st.Ledger.Accounts, st.Ledger.Releases = slices.Clone(st.Ledger.Accounts), slices.Clone(st.Ledger.Releases)
	return st
}

// bend makes a good block wrong: first in what it holds, then, when the header's digests are reckoned anew, in its header.
type bend struct {
	what    string
	step    int // of C6
	want    api.Errno
	content func(w *world, b *api.Block)
	header  func(b *api.Block)
}

func bends() []bend {
	return []bend{
		{"nobody proposes", 2, api.ErrField, nil, func(b *api.Block) { b.Header.Proposer = 0 }},
		{"a transaction of no kind", 2, api.ErrKind, func(w *world, b *api.Block) { b.Txs[0].Kind = 9 }, nil},
		{"another chain", 3, api.ErrChain, nil, func(b *api.Block) { b.Header.Chain = "d" }},
		{"a longer name", 3, api.ErrChain, nil, func(b *api.Block) { b.Header.Chain = "cc" }},
		{"a height more", 4, api.ErrHeight, nil, func(b *api.Block) { b.Header.Height++ }},
		{"a height less", 4, api.ErrHeight, nil, func(b *api.Block) { b.Header.Height-- }},
		{"behind another block", 5, api.ErrLast, nil, func(b *api.Block) { b.Header.Last[31]++ }},
		{"another council", 6, api.ErrSeats, nil, func(b *api.Block) { b.Header.Council[0]++ }},
		{"another next council", 6, api.ErrSeats, nil, func(b *api.Block) { b.Header.Next[31]++ }},
		{"another state", 7, api.ErrRoots, nil, func(b *api.Block) { b.Header.State[1]++ }},
		{"other transactions", 7, api.ErrRoots, nil, func(b *api.Block) { b.Header.Txs[2]++ }},
		{"other evidence", 7, api.ErrRoots, nil, func(b *api.Block) { b.Header.Evidence[3]++ }},
		{"another certificate", 7, api.ErrRoots, nil, func(b *api.Block) { b.Header.Cert[4]++ }},
		{"no member proposes", 8, api.ErrTurn, nil, func(b *api.Block) { b.Header.Proposer = 9 }},
		{"the certificate of another height", 9, api.ErrCert, func(w *world, b *api.Block) { b.Last.Height-- }, nil},
		{"the certificate of another block", 9, api.ErrCert, func(w *world, b *api.Block) { b.Last.Id[0]++ }, nil},
		{"the zero certificate", 9, api.ErrCert, func(w *world, b *api.Block) { b.Last = api.Cert{} }, nil},
		{"too few have signed", 9, api.ErrQuorum, func(w *world, b *api.Block) { b.Last.Marks = b.Last.Marks[:2] }, nil},
		{"a wrong seal", 9, api.ErrSeal, func(w *world, b *api.Block) { b.Last.Marks[1].Seal[0]++ }, nil},
		{"no member's mark", 9, api.ErrMember, func(w *world, b *api.Block) { b.Last.Marks[3].Index = 4 }, nil},
		{"a tick late", 10, api.ErrTime, nil, func(b *api.Block) { b.Header.Time++ }},
		{"a tick early", 10, api.ErrTime, nil, func(b *api.Block) { b.Header.Time-- }},
		{"a transaction too many", 11, api.ErrBig, func(w *world, b *api.Block) { b.Txs = append(b.Txs, w.pay(1, 2, 1, 0, 1)) }, nil},
		{"evidence turned about", 12, api.ErrOrder, func(w *world, b *api.Block) { slices.Reverse(b.Evidence) }, nil},
		{"evidence twice", 12, api.ErrOrder, func(w *world, b *api.Block) { b.Evidence = append(b.Evidence, b.Evidence[2]) }, nil},
		{"an offence twice", 12, api.ErrOrder, func(w *world, b *api.Block) { b.Evidence = append(b.Evidence, w.proof(3, 4, api.Precommit, 5)) }, nil},
		{"evidence with a wrong seal", 13, api.ErrSeal, func(w *world, b *api.Block) { b.Evidence[0].B.Seal[5]++ }, nil},
		{"evidence against no member", 13, api.ErrMember, func(w *world, b *api.Block) { b.Evidence[2] = w.ev(3, 40) }, nil},
		{"evidence too old", 13, api.ErrAge, func(w *world, b *api.Block) { b.Evidence[0] = w.ev(1, 3) }, nil},
		{"a nonce that is not due", 14, api.ErrNonce, func(w *world, b *api.Block) { b.Txs[0] = w.pay(1, 2, 1, 0, 5) }, nil},
		{"a balance too small", 14, api.ErrFunds, func(w *world, b *api.Block) { b.Txs[1] = w.pay(2, 1, 5000, 0, 0) }, nil},
		{"a transaction with a wrong seal", 14, api.ErrSeal, func(w *world, b *api.Block) { b.Txs[0].Seal[0]++ }, nil},
	}
}

// bendWorld is a chain behind block 3, with a block of two transactions, which are as many as it may hold, and three pieces of evidence.
func bendWorld(t *testing.T) (*world, api.Block) {
	t.Helper()
	g := genesis()
	g.Params.MaxTxs = 2
	w := newWorld(t, g)
	w.grow(3)
	txs := []api.Tx{w.pay(1, 9, 5, 1, 0), w.pay(2, 1, 5, 1, 0)}
	b := w.block(txs, []api.Evidence{w.ev(3, 4), w.ev(2, 3), w.ev(3, 3)})
	if len(b.Txs) != 2 || len(b.Evidence) != 3 {
		t.Fatalf("C5: %d transactions and %d pieces of evidence", len(b.Txs), len(b.Evidence))
	}
	w.valid("as it was made", b, api.OK)
	return w, b
}

// bent is the block with one or several bends.
func (w *world) bent(b api.Block, all ...bend) api.Block {
	b = copyBlock(b)
	for _, x := range all {
		if x.content != nil {
			x.content(w, &b)
		}
	}
	b = w.bound(b)
	for _, x := range all {
		if x.header != nil {
			x.header(&b)
		}
	}
	return b
}

// TestValidOrder: each thing that may be wrong is told, and of two the one that is asked first.
func TestValidOrder(t *testing.T) {
	w, b := bendWorld(t)
	for _, x := range bends() {
		w.valid(x.what, w.bent(b, x), x.want)
		for _, y := range bends() {
			if x.step < y.step { // x is bent last, for some bend the same field
				w.valid(x.what+", "+y.what, w.bent(b, y, x), x.want)
			}
		}
	}
	if !t.Failed() {
		w.valid("as it was made, again", b, api.OK)
	}
}

// TestValidOrderWithin: of one step the first evidence and the first transaction that is wrong is told; evidence ahead of transactions.
func TestValidOrderWithin(t *testing.T) {
	w, b := bendWorld(t)
	c := copyBlock(b)
	c.Evidence[0].A.Seal[0]++
	c.Evidence[2] = w.ev(3, 40)
	w.valid("the first evidence is not sealed", w.bound(c), api.ErrSeal)
	c = copyBlock(b)
	c.Evidence[0] = w.ev(1, 3)
	c.Evidence[2].A.Seal[0]++
	w.valid("the first evidence is too old", w.bound(c), api.ErrAge)
	c = copyBlock(b)
	c.Txs[0], c.Txs[1] = w.pay(1, 2, 1000, 0, 0), w.pay(2, 1, 1, 0, 9)
	w.valid("the first transaction can't be paid", w.bound(c), api.ErrFunds)
	c.Txs[0], c.Txs[1] = c.Txs[1], c.Txs[0]
	w.valid("the first transaction has another nonce", w.bound(c), api.ErrNonce)
}

// TestValidBeginning: block 1 shows no certificate.
func TestValidBeginning(t *testing.T) {
	w := examples(t, 0)
	b := w.block(nil, nil)
	w.valid("as it was made", b, api.OK)
	c := b
	c.Header.Cert[31] = 1
	w.valid("the digest of a certificate", c, api.ErrRoots)
	late := b
	late.Header.Time++
	w.valid("a tick late", late, api.ErrTime)
	for what, x := range map[string]api.Cert{
		"without marks": {Height: 1, Id: api.Hash{1}},
		"with marks":    w.certBy(w.st.Council, 1, 0, api.Hash{1}, upTo(4), at(5)),
	} {
		c := b
		c.Last = x
		w.valid("a certificate "+what, c, api.ErrCert)
		c.Header.Time++
		w.valid("a certificate, and late, "+what, c, api.ErrCert)
		c.Header.Proposer = 9
		w.valid("a certificate, and no member proposes, "+what, c, api.ErrTurn)
		c.Header.Cert = api.Hash{1}
		w.valid("a certificate and a digest "+what, c, api.ErrRoots)
	}
	c = b
	c.Last.Marks = []api.Mark{}
	w.valid("an empty list of marks", c, api.OK)
	c.Last.Round = 1
	w.valid("a round alone", c, api.ErrField)
}

// TestValidProposer: any member may propose, whoever's turn it is.
func TestValidProposer(t *testing.T) {
	w := examples(t, 2)
	for a := api.Addr(1); a <= 4; a++ {
		b, e := chain.Make(w.st, w.r, nil, nil, w.cert(w.st.Time+1), a)
		if e != api.OK || b.Header.Proposer != a {
			t.Errorf("C5: proposed by %d: error %d", a, e)
		}
		w.valid(fmt.Sprint("proposed by ", a), b, api.OK)
	}
	for _, a := range []api.Addr{0, 5, math.MaxUint64} {
		if _, e := chain.Make(w.st, w.r, nil, nil, w.cert(w.st.Time+1), a); e != api.ErrTurn {
			t.Errorf("C5: proposed by %d: error %d", a, e)
		}
	}
}

// TestProposerOfHeight: who is a member of the next council alone may not propose yet, who is one of this council alone still may.
func TestProposerOfHeight(t *testing.T) {
	w := examples(t, 1)
	bond := w.due(api.Tx{Kind: api.TxBond, From: 1, Amount: 5}, 0)
	w.on(w.block([]api.Tx{bond}, []api.Evidence{w.ev(1, 3)})) // 3 is in jail, and sits in the council of height 3 for the last time
	if got := addrs(w.st.Council); !slices.Equal(got, []api.Addr{1, 2, 3, 4}) {
		t.Fatalf("C7: Council %v", got)
	}
	b, e := chain.Make(w.st, w.r, nil, nil, w.cert(w.st.Time+1), 3)
	if e != api.OK {
		t.Fatalf("C5: proposed by 3: error %d", e)
	}
	w.valid("proposed by 3", b, api.OK)
	w.on(b)
	if _, e := chain.Make(w.st, w.r, nil, nil, w.cert(w.st.Time+1), 3); e != api.ErrTurn {
		t.Errorf("C5: proposed by 3, who has left: error %d", e)
	}
	free := w.due(api.Tx{Kind: api.TxFree, From: 3}, 0)
	w.on(w.block([]api.Tx{free}, nil))
	if council := addrs(w.st.Next); !slices.Contains(council, 3) || slices.Contains(addrs(w.st.Council), 3) {
		t.Fatalf("C7: Council %v, Next %v", w.st.Council, w.st.Next)
	}
	if _, e := chain.Make(w.st, w.r, nil, nil, w.cert(w.st.Time+1), 3); e != api.ErrTurn {
		t.Errorf("C5: proposed by 3, who is to come: error %d", e)
	}
}

// TestCertificateOfOtherCouncil: the certificate in a block is looked over by the council of the height ahead, not by that of its own height.
func TestCertificateOfOtherCouncil(t *testing.T) {
	w := examples(t, 1)
	w.on(w.block(nil, []api.Evidence{w.ev(1, 2)}))
	w.grow(2)
	if got := addrs(w.ahead()); !slices.Equal(got, []api.Addr{1, 3, 4}) {
		t.Fatalf("C7: the council of 4 is %v", got)
	}
	free := w.due(api.Tx{Kind: api.TxFree, From: 2}, 0)
	w.on(w.block([]api.Tx{free}, nil))
	w.grow(1)
	if len(w.st.Council.Members) != 4 || len(w.ahead().Members) != 3 {
		t.Fatalf("C7: councils %v, %v", w.ahead(), w.st.Council)
	}
	b := w.block(nil, nil)
	w.valid("by the council ahead", b, api.OK)
	c := w.certBy(w.st.Council, w.st.Height, 0, w.st.Last, upTo(4), at(w.st.Time+5))
	if _, e := chain.Make(w.st, w.r, nil, nil, c, 1); e != api.ErrMember {
		t.Errorf("C4: by the council of the block's own height: error %d", e)
	}
	c.Marks = c.Marks[:3]
	if _, e := chain.Make(w.st, w.r, nil, nil, c, 1); e != api.ErrSeal {
		t.Errorf("C4: by three of the council of the block's own height: error %d", e)
	}
	b.Last = c
	w.valid("by three of the council of its own height", w.bound(b), api.ErrSeal)
}

// TestOtherCertificate: any certificate of the block ahead is good, whatever its round and marks are; the time goes by it.
func TestOtherCertificate(t *testing.T) {
	w := examples(t, 2)
	for _, round := range []int{0, 1, api.MaxRound} {
		for _, places := range [][]int{{0, 1, 2}, {1, 2, 3}, {0, 1, 2, 3}} {
			x := w.certBy(w.ahead(), 2, round, w.st.Last, places, func(k int) uint64 { return w.st.Time + 10*uint64(k+1) })
			b, e := chain.Make(w.st, w.r, nil, nil, x, 1)
			if want := modelMedian(w.ahead(), x); e != api.OK || b.Header.Time != want {
				t.Errorf("C5: at %d, error %d, want %d", b.Header.Time, e, want)
			}
			w.valid(fmt.Sprint("round ", round, " by ", places), b, api.OK)
		}
	}
}

// jumped is the state of an example as if its last heights were those up to a given one.
func jumped(st api.State, height uint64) api.State {
	st = copyState(st)
	for k := range st.Past {
		st.Past[k].Height += height - st.Height
	}
	for k := range st.Punished {
		st.Punished[k].Height += height - st.Height
	}
	st.Height = height
	return st
}

// TestLastHeight: a chain goes up to MaxHeight, and no further.
func TestLastHeight(t *testing.T) {
	w := examples(t, 3)
	w.st = jumped(w.st, api.MaxHeight-1)
	b := w.block([]api.Tx{w.pay(1, 2, 3, 1, 0)}, []api.Evidence{w.ev(api.MaxHeight-1, 4)})
	if b.Header.Height != api.MaxHeight || len(b.Txs) != 1 || len(b.Evidence) != 1 {
		t.Fatalf("C5: %v", b)
	}
	w.valid("the last block", b, api.OK)
	w.on(b)
	if w.st.Height != api.MaxHeight {
		t.Fatalf("C7: height %d", w.st.Height)
	}
	x := w.cert(w.st.Time + 1)
	if _, e := chain.Make(w.st, w.r, nil, nil, x, 1); e != api.ErrHeight {
		t.Errorf("C5: behind the last block: error %d", e)
	}
	if _, e := chain.Make(w.st, w.r, nil, nil, api.Cert{}, 9); e != api.ErrHeight {
		t.Errorf("C5: ErrHeight is ahead of ErrTurn and ErrCert: error %d", e)
	}
	w.valid("the last block again", b, api.ErrHeight)
	b.Header.Last[0]++
	w.valid("the last block, behind another", b, api.ErrHeight)
	b.Header.Height++
	w.valid("a height above it is not plain", b, api.ErrField)
	b.Header.Height, b.Header.Chain = 5, "d"
	w.valid("of another chain", b, api.ErrChain)
}

// TestLastTime: a chain whose time is MaxTime goes no further.
func TestLastTime(t *testing.T) {
	w := examples(t, 2)
	w.st.Time = api.MaxTime - 1
	b, e := chain.Make(w.st, w.r, nil, nil, w.cert(api.MaxTime), 1)
	if e != api.OK || b.Header.Time != api.MaxTime {
		t.Fatalf("C5: at %d, error %d", b.Header.Time, e)
	}
	w.on(b)
	if _, e := chain.Make(w.st, w.r, nil, nil, w.cert(api.MaxTime), 1); e != api.ErrTime {
		t.Errorf("C5: behind the last time: error %d", e)
	}
	b.Header.Height, b.Header.Last, b.Last = 4, w.st.Last, w.cert(api.MaxTime)
	w.valid("at the last time again", w.bound(b), api.ErrTime)
	g := genesis()
	g.Time = api.MaxTime
	w = newWorld(t, g)
	w.on(w.block(nil, nil)) // block 1 has the beginning's time, whatever it is
	if _, e := chain.Make(w.st, w.r, nil, nil, w.cert(api.MaxTime), 1); e != api.ErrTime {
		t.Errorf("C5: behind the last time: error %d", e)
	}
}

// TestManyTxs: Params.MaxTxs is the bound, and 1000 at most.
func TestManyTxs(t *testing.T) {
	for _, most := range []int{0, 1, 7, 1000} {
		g := genesis()
		g.Params.MaxTxs, g.Accounts[0].Balance = most, 5000
		w := newWorld(t, g)
		w.grow(1)
		var txs []api.Tx
		for k := range uint64(most) + 2 {
			txs = append(txs, w.pay(1, 2, 1, 1, k))
		}
		b := w.block(txs, nil)
		if !slices.Equal(b.Txs, txs[:most]) {
			t.Errorf("C5: %d transactions, want %d", len(b.Txs), most)
		}
		w.valid("as many as may be", b, api.OK)
		b.Txs = txs[:most+1]
		w.valid("one more", w.bound(b), api.ErrBig)
	}
}

// TestPunishNobody: a member of the past without an account is told by Make and by Valid; behind sound states alone that a chain can't come to.
func TestPunishNobody(t *testing.T) {
	w := examples(t, 3)
	good := copyState(w.st)
	w.st.Past[1].Council.Members = append(w.st.Past[1].Council.Members, api.Member{Addr: 9, Power: 1})
	bad := w.ev(3, 9)
	if b, e := chain.Make(w.st, w.r, nil, []api.Evidence{bad}, w.cert(w.st.Time+1), 1); e != api.ErrNobody || b.Evidence != nil || b.Header != (api.Header{}) {
		t.Errorf("C5: %v, error %d", b, e)
	}
	b := w.block(nil, nil)
	w.valid("without it", b, api.OK)
	b.Evidence = []api.Evidence{w.ev(2, 3), bad}
	b.Txs = []api.Tx{w.pay(1, 2, 1, 1, 5)}
	w.valid("with it", w.bound(b), api.ErrNobody)
	b.Evidence[0] = w.ev(2, 40)
	w.valid("another is no member", w.bound(b), api.ErrMember)
	w.st = good
	w.valid("no member of the past", w.bound(api.Block{Header: b.Header, Evidence: []api.Evidence{bad}, Last: b.Last}), api.ErrMember)
}

// stateBend is a change of a state, and whether it stays sound.
type stateBend struct {
	what  string
	bend  func(st *api.State)
	sound bool
}

// stateBends are changes of the state behind block 3, of which 2 and 3 are in Past.
func stateBends() (all []stateBend) {
	add := func(what string, sound bool, bend func(st *api.State)) {
		all = append(all, stateBend{what, bend, sound})
	}
	for _, c := range paramCases() {
		add(c.what, c.fit, func(st *api.State) {
			c.bend(&st.Params)
			if n := st.Params.Age; c.fit && n != 2 { // the past that goes with it
				first := max(1, 4-min(3, int(n)))
				st.Past = st.Past[:0]
				for h := first; h <= 3; h++ {
					st.Past = append(st.Past, api.Past{Height: uint64(h), Council: st.Council})
				}
			}
		})
	}
	add("no name", false, func(st *api.State) { st.Chain = "" })
	add("a name of 16 bytes", true, func(st *api.State) { st.Chain = "sixteen letters!" })
	add("a name of 17 bytes", false, func(st *api.State) { st.Chain = "seventeen letters" })
	add("MaxHeight", true, func(st *api.State) { *st = jumped(*st, api.MaxHeight) })
	add("above MaxHeight", false, func(st *api.State) { *st = jumped(*st, api.MaxHeight+1) })
	add("the greatest height", false, func(st *api.State) { *st = jumped(*st, math.MaxUint64) })
	add("MaxTime", true, func(st *api.State) { st.Time = api.MaxTime })
	add("above MaxTime", false, func(st *api.State) { st.Time = api.MaxTime + 1 })
	add("time 0", true, func(st *api.State) { st.Time = 0 })
	add("no last block", false, func(st *api.State) { st.Last = api.Hash{} })
	for e, c := range noCouncils() {
		what := fmt.Sprint("no council: ", e)
		add(what, false, func(st *api.State) { st.Council = c })
		add(what+", next", false, func(st *api.State) { st.Next = c })
		add(what+", of 2", false, func(st *api.State) { st.Past[0].Council = c })
		add(what+", of 3", false, func(st *api.State) { st.Past[1].Council = c })
	}
	add("a greater supply", false, func(st *api.State) { st.Ledger.Supply++ })
	add("accounts turned about", false, func(st *api.State) { slices.Reverse(st.Ledger.Accounts) })
	add("a row of nobody", false, func(st *api.State) {
		st.Ledger.Releases = []api.Release{{Height: 9, Addr: 77, Born: 2, Amount: 1}}
		st.Ledger.Supply++
	})
	add("something was burnt", true, func(st *api.State) { st.Ledger.Burnt, st.Ledger.Supply = 7, st.Ledger.Supply+7 })
	add("a height less", false, func(st *api.State) { st.Height-- })
	add("a height more", false, func(st *api.State) { st.Height++ })
	add("no past", false, func(st *api.State) { st.Past = nil })
	add("2 alone", false, func(st *api.State) { st.Past = st.Past[:1] })
	add("3 alone", false, func(st *api.State) { st.Past = st.Past[1:] })
	add("1, 2 and 3", false, func(st *api.State) {
		st.Past = append([]api.Past{{Height: 1, Council: st.Council}}, st.Past...)
	})
	add("2, 3 and 4", false, func(st *api.State) { st.Past = append(st.Past, api.Past{Height: 4, Council: st.Council}) })
	add("3 and 2", false, func(st *api.State) { slices.Reverse(st.Past) })
	add("3 and 3", false, func(st *api.State) { st.Past[0] = st.Past[1] })
	add("1 and 3", false, func(st *api.State) { st.Past[0].Height = 1 })
	add("2 and 4", false, func(st *api.State) { st.Past[1].Height = 4 })
	add("past at MaxTime", true, func(st *api.State) { st.Past[0].Time, st.Past[1].Time = api.MaxTime, api.MaxTime })
	add("past above MaxTime", false, func(st *api.State) { st.Past[0].Time = api.MaxTime + 1 })
	add("past above MaxTime, the last", false, func(st *api.State) { st.Past[1].Time = math.MaxUint64 })
	for _, c := range []struct {
		list  []api.Offence
		sound bool
	}{
		{[]api.Offence{}, true},
		{[]api.Offence{{Height: 2, Addr: 1}}, true},
		{[]api.Offence{{Height: 3, Addr: math.MaxUint64}}, true},
		{[]api.Offence{{Height: 2, Addr: 1}, {Height: 2, Addr: 9}, {Height: 3, Addr: 1}, {Height: 3, Addr: 2}}, true},
		{[]api.Offence{{Height: 2, Addr: 9}, {Height: 2, Addr: 1}}, false},
		{[]api.Offence{{Height: 3, Addr: 1}, {Height: 2, Addr: 9}}, false},
		{[]api.Offence{{Height: 2, Addr: 1}, {Height: 2, Addr: 1}}, false},
		{[]api.Offence{{Height: 2, Addr: 0}}, false},
		{[]api.Offence{{Height: 2, Addr: 5}, {Height: 3, Addr: 0}}, false},
		{[]api.Offence{{Height: 1, Addr: 1}}, false},
		{[]api.Offence{{Height: 1, Addr: 9}, {Height: 2, Addr: 1}}, false},
		{[]api.Offence{{Height: 4, Addr: 1}}, false},
		{[]api.Offence{{Height: 2, Addr: 1}, {Height: 4, Addr: 1}}, false},
		{[]api.Offence{{Height: 0, Addr: 1}}, false},
		{[]api.Offence{{Height: math.MaxUint64, Addr: 1}}, false},
	} {
		add(fmt.Sprint("punished: ", c.list), c.sound, func(st *api.State) { st.Punished = c.list })
	}
	return all
}

// wantSound: all three calls ask whether a state is sound, ahead of all but the registry.
func wantSound(t *testing.T, w *world, what string, st api.State, b api.Block, sound bool) {
	t.Helper()
	_, made := chain.Make(st, w.r, nil, nil, b.Last, 1)
	valid := chain.Valid(st, w.r, b)
	_, applied := chain.Apply(st, w.r, b)
	for call, e := range map[string]api.Errno{"Make": made, "Valid": valid, "Apply": applied} {
		if (e == api.ErrArg) == sound {
			t.Errorf("C5, C6: %s: %s: error %d", what, call, e)
		}
	}
	_, made = chain.Make(st, nil, nil, nil, b.Last, 1)
	_, applied = chain.Apply(st, &seal.Registry{}, b)
	if made != api.ErrNil || chain.Valid(st, nil, b) != api.ErrNil || applied != api.ErrNil {
		t.Errorf("C5, C6: %s: ErrNil is not ahead of ErrArg", what)
	}
	if !sound {
		_, made = chain.Make(st, w.r, nil, nil, api.Cert{Height: 9}, 99)
		if valid = chain.Valid(st, w.r, api.Block{}); made != api.ErrArg || valid != api.ErrArg {
			t.Errorf("C5, C6: %s: ErrArg is not ahead of the rest: errors %d, %d", what, made, valid)
		}
	}
}

func TestSoundState(t *testing.T) {
	w := examples(t, 3)
	b := w.block(nil, nil)
	wantSound(t, w, "as it is", w.st, b, true)
	for _, c := range stateBends() {
		st := copyState(w.st)
		c.bend(&st)
		wantSound(t, w, c.what, st, b, c.sound)
	}
}

func TestSoundBeginning(t *testing.T) {
	w := examples(t, 0)
	b := w.block(nil, nil)
	past := api.Past{Council: w.st.Council}
	for what, bend := range map[string]func(st *api.State){
		"a last block":     func(st *api.State) { st.Last[31] = 1 },
		"a past":           func(st *api.State) { st.Past = []api.Past{past} },
		"an offence":       func(st *api.State) { st.Punished = []api.Offence{{Addr: 1}} },
		"an offence of 1":  func(st *api.State) { st.Punished = []api.Offence{{Height: 1, Addr: 1}} },
		"a height":         func(st *api.State) { st.Height = 1 },
		"height and block": func(st *api.State) { st.Height, st.Last = 1, api.Hash{1} },
	} {
		st := copyState(w.st)
		bend(&st)
		wantSound(t, w, what, st, b, false)
	}
	st := copyState(w.st)
	st.Past, st.Punished = []api.Past{}, []api.Offence{}
	wantSound(t, w, "empty lists", st, b, true)
	past.Height = 1
	st.Height, st.Last, st.Past = 1, api.Hash{1}, []api.Past{past}
	wantSound(t, w, "behind block 1", st, b, true)
}

// TestSoundLedger: a state with as many accounts as there may be is sound.
func TestSoundLedger(t *testing.T) {
	g := genesis()
	for a := api.Addr(5); a <= api.MaxAccounts; a++ {
		g.Accounts = append(g.Accounts, api.Account{Addr: a, Balance: 1})
	}
	w := newWorld(t, g)
	b := w.block([]api.Tx{w.pay(1, 5, 1, 1, 0), w.pay(2, 1<<40, 1, 1, 0)}, nil)
	if len(b.Txs) != 1 {
		t.Errorf("C5: %d transactions, though no account more can be made", len(b.Txs))
	}
	w.valid("65536 accounts", b, api.OK)
	w.on(b)
	if e := ledger.Sound(w.st.Ledger); e != api.OK {
		t.Errorf("P12.3: error %d", e)
	}
}
