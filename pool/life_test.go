package pool_test

import (
	"math"
	"math/rand"
	"slices"
	"testing"

	"assent/api"
	"assent/ledger"
	"assent/wire"
)

// someAccounts are of the addresses 1 to 6, not of all of them.
func someAccounts(r *rand.Rand) (list []api.Account) {
	for a := api.Addr(1); a <= 6; a++ {
		if r.Intn(6) == 0 {
			continue
		}
		list = append(list, api.Account{Addr: a, Balance: uint64(r.Intn(120)), Bond: uint64(r.Intn(12)), Nonce: uint64(r.Intn(5)), Jailed: r.Intn(4) == 0})
	}
	return list
}

// someState is one of a sound ledger, with rows.
func someState(t *testing.T, r *rand.Rand) api.State {
	t.Helper()
	l, e := ledger.New(someAccounts(r))
	if e != api.OK {
		t.Fatalf("ledger.New: error %d", e)
	}
	for k, acc := range l.Accounts {
		if r.Intn(3) == 0 {
			l.Releases = append(l.Releases, api.Release{Height: uint64(4 + k/2), Addr: acc.Addr, Born: 1, Amount: 40})
			l.Supply += 40
		}
	}
	if e := ledger.Sound(l); e != api.OK {
		t.Fatalf("ledger.Sound: error %d", e)
	}
	p := params
	p.MaxTxs = r.Intn(12)
	return api.State{Chain: name, Params: p, Height: uint64(2 + r.Intn(5)), Ledger: l}
}

// someTx is of any account, most often of a nonce that might be due.
func (w *world) someTx(r *rand.Rand) api.Tx {
	x := api.Tx{Kind: 1 + r.Intn(4), From: api.Addr(1 + r.Intn(7)), Amount: uint64(r.Intn(30)), Fee: uint64(r.Intn(12)), Nonce: uint64(r.Intn(9))}
	switch x.Kind {
	case api.TxPay:
		x.To = api.Addr(1 + r.Intn(9))
	case api.TxFree:
		x.Amount = 0
	}
	switch r.Intn(40) {
	case 0:
		x.Nonce = []uint64{16, 17, 20, math.MaxUint64 - 1, math.MaxUint64}[r.Intn(5)]
	case 1:
		x.Fee = []uint64{100, supply, supply + 1}[r.Intn(3)]
	case 2:
		x.To = api.Addr(r.Intn(2))
	case 3:
		x.Kind = r.Intn(7)
	case 4:
		return x
	case 5:
		return w.sealedFor("b", x)
	}
	return w.sealed(x)
}

// TestAgainstTheModel plays any states, of a chain or not, to a pool and to the model.
func TestAgainstTheModel(t *testing.T) {
	seen, picked, over := map[api.Errno]int{}, 0, 0
	for seed := range int64(60) {
		r := rand.New(rand.NewSource(seed))
		m := &model{most: []int{1, 2, 3, 5, 8, 13, 40}[r.Intn(7)]}
		w := newWorld(t, m.most)
		w.st = someState(t, r)
		var all []api.Tx
		for range 600 {
			switch r.Intn(30) {
			case 0, 1:
				w.st = someState(t, r)
			case 2:
				told := w.p.Recheck(w.st)
				w.wantTold("O4: Recheck", told, m.recheck(w.st)...)
				over += len(told)
			case 3:
				w.st.Chain = []string{name, "b", ""}[r.Intn(3)]
			case 4, 5, 6:
				proposer := api.Addr(r.Intn(8))
				told := w.p.Pick(w.st, w.r, proposer)
				w.wantTold("O3: Pick", told, m.pick(w.st, w.r, proposer)...)
				picked += len(told)
			}
			x := w.someTx(r)
			if len(m.list) > 0 && r.Intn(20) == 0 {
				x = m.list[r.Intn(len(m.list))]
			}
			all = append(all, x)
			want := m.add(w.st, w.r, x)
			seen[want]++
			if e := w.p.Add(w.st, w.r, x); e != want {
				t.Errorf("O2: Add of %v: error %d, want %d", x, e, want)
			}
			w.wantAs(m, all)
			if t.Failed() {
				t.Fatalf("seed %d, behind %v", seed, w.st)
			}
		}
	}
	for _, e := range []api.Errno{api.OK, api.ErrKind, api.ErrField, api.ErrSeal, api.ErrKnown, api.ErrNobody, api.ErrPast, api.ErrFar, api.ErrPoor, api.ErrCheap} {
		if seen[e] < 50 {
			t.Errorf("only %d of the transactions were of error %d", seen[e], e)
		}
	}
	if picked < 500 || over < 500 {
		t.Errorf("only %d were picked, %d told by Recheck", picked, over)
	}
}

// wantAs: the pool holds what the model holds, and of all that were ever shown to it nothing else.
func (w *world) wantAs(m *model, all []api.Tx) {
	w.t.Helper()
	w.wantList("as the model", m.sorted()...)
	if w.p.Len() != len(m.list) || w.p.Len() > m.most {
		w.t.Errorf("P9.1: Len is %d, want %d, of at most %d", w.p.Len(), len(m.list), m.most)
	}
	for _, x := range all[max(0, len(all)-40):] {
		if id, e := wire.TxId(x); e == api.OK && w.p.Has(id) != slices.Contains(m.list, x) {
			w.t.Errorf("O5: Has of %v: %v", x, w.p.Has(id))
		}
	}
}

// play works the picked ones off one by one; each must be taken.
func (w *world) play(l api.Ledger, picked []api.Tx, proposer api.Addr) api.Ledger {
	w.t.Helper()
	for _, x := range picked {
		next, e := ledger.Apply(l, w.r, w.st.Chain, w.st.Params, w.st.Height+1, proposer, x)
		if e != api.OK {
			w.t.Fatalf("P9.2: what was picked is refused: %v, error %d", x, e)
		}
		l = next
	}
	return l
}

// wantInTurn: of each From the picked ones stand by nonces that follow one another, from the account's on.
func (w *world) wantInTurn(l api.Ledger, picked []api.Tx) {
	w.t.Helper()
	due := map[api.Addr]uint64{}
	for _, acc := range l.Accounts {
		due[acc.Addr] = acc.Nonce
	}
	for _, x := range picked {
		if due[x.From] != x.Nonce {
			w.t.Errorf("P9.2: %v is picked, %d is due", x, due[x.From])
		}
		due[x.From]++
	}
}

// wantDearest: each is dearer than every other that was the first of a row then. A row that the ledger would refuse later counts too, till it is its turn.
func (w *world) wantDearest(l api.Ledger, picked []api.Tx, proposer api.Addr) {
	w.t.Helper()
	due := map[api.Addr]uint64{}
	for _, acc := range l.Accounts {
		due[acc.Addr] = acc.Nonce
	}
	held := w.p.List() // the dearest first
	for _, x := range picked {
		for _, y := range held {
			if y == x {
				break
			}
			if n, found := due[y.From]; !found || y.Nonce != n {
				continue
			}
			if _, e := ledger.Apply(l, w.r, w.st.Chain, w.st.Params, w.st.Height+1, proposer, y); e == api.OK {
				w.t.Errorf("P9.5: %v is picked ahead of the dearer %v", x, y)
			}
			delete(due, y.From) // its row has gone
		}
		l, _ = ledger.Apply(l, w.r, w.st.Chain, w.st.Params, w.st.Height+1, proposer, x)
		due[x.From]++
	}
}

// wantNoGap is what P9.4 promises behind a chain's states.
func (w *world) wantNoGap() {
	w.t.Helper()
	for _, acc := range w.st.Ledger.Accounts {
		var nonces []uint64
		for _, x := range w.p.List() {
			if x.From == acc.Addr {
				nonces = append(nonces, x.Nonce)
			}
		}
		slices.Sort(nonces)
		for k, n := range nonces {
			if n != acc.Nonce+uint64(k) {
				w.t.Errorf("P9.4: of %d, whose nonce is %d, are held: %v", acc.Addr, acc.Nonce, nonces)
			}
		}
		if len(nonces) > 16 {
			w.t.Errorf("P9.4: of %d %d are held", acc.Addr, len(nonces))
		}
	}
}

// addInLife adds one, and wants that nothing goes in silence.
func (w *world) addInLife(x api.Tx, most int) {
	w.t.Helper()
	was := w.p.List()
	e := w.p.Add(w.st, w.r, x)
	var gone []api.Tx
	for _, y := range was {
		if !w.p.Has(idOf(w.t, y)) {
			gone = append(gone, y)
		}
	}
	switch {
	case e != api.OK && len(gone) > 0, len(gone) > 1:
		w.t.Errorf("P9.3: Add of %v, error %d: %v are gone", x, e, gone)
	case len(gone) == 1:
		y := gone[0]
		inPlace := y.From == x.From && y.Nonce == x.Nonce
		if y.Fee >= x.Fee || !inPlace && (len(was) < most || y.From == x.From) {
			w.t.Errorf("P9.3: %v has come for %v, %d are held", x, y, len(was))
		}
	}
	if e == api.OK && !w.p.Has(idOf(w.t, x)) {
		w.t.Errorf("P9.3: %v was taken, and is not held", x)
	}
}

// lifeTx is one that the next block or a later one might take; most are payments, for what the ledger refuses stays ahead of all that follows it.
func (w *world) lifeTx(r *rand.Rand) api.Tx {
	x := w.someTx(r)
	if r.Intn(20) > 0 {
		x.Kind, x.To = api.TxPay, api.Addr(1+r.Intn(9))
	}
	for _, acc := range w.st.Ledger.Accounts {
		if acc.Addr == x.From && r.Intn(20) > 0 {
			x.Nonce = acc.Nonce
			for _, y := range w.p.List() {
				if y.From == x.From && r.Intn(8) > 0 {
					x.Nonce++
				}
			}
		}
	}
	return w.sealed(x)
}

// TestLives plays chains: blocks are made of what is picked, and sometimes of what others have picked.
func TestLives(t *testing.T) {
	blocks, longest := 0, 0
	for seed := range int64(20) {
		r := rand.New(rand.NewSource(1000 + seed))
		most := []int{1, 3, 10, 30, 100}[r.Intn(5)]
		w := newWorld(t, most)
		w.st = someState(t, r)
		for k := range w.st.Ledger.Accounts {
			w.st.Ledger.Accounts[k].Balance += 2000
			w.st.Ledger.Supply += 2000
		}
		w.st.Height, w.st.Params.MaxTxs = 0, 1+r.Intn(9)
		other := newPool(t, 30)
		for range 40 {
			for range r.Intn(50) {
				x := w.lifeTx(r)
				if r.Intn(5) > 0 {
					w.addInLife(x, most)
				}
				other.Add(w.st, w.r, x)
				w.wantNoGap()
			}
			longest = max(longest, w.p.Len())
			proposer := api.Addr(r.Intn(8))
			paid, e := ledger.Pay(w.st.Ledger, w.st.Height+1)
			if e != api.OK {
				t.Fatalf("ledger.Pay: error %d", e)
			}
			picked := w.p.Pick(w.st, w.r, proposer)
			w.wantInTurn(paid, picked)
			w.wantDearest(paid, picked, proposer)
			if r.Intn(3) == 0 {
				picked = other.Pick(w.st, w.r, proposer)
			}
			w.st.Ledger = w.play(paid, picked, proposer)
			w.st.Height++
			other.Recheck(w.st)
			w.wantRechecked()
			w.wantNoGap()
			blocks += min(1, len(picked))
			if t.Failed() {
				t.Fatalf("seed %d, height %d", seed, w.st.Height)
			}
		}
	}
	if blocks < 500 || longest < 60 {
		t.Errorf("only %d blocks had transactions, at most %d were held", blocks, longest)
	}
}

// wantRechecked: Recheck tells just those that go.
func (w *world) wantRechecked() {
	w.t.Helper()
	was := w.p.List()
	over := w.p.Recheck(w.st)
	both := append(slices.Clone(over), w.p.List()...)
	slices.SortFunc(both, modelOrder)
	if !slices.Equal(both, was) || !slices.IsSortedFunc(over, modelOrder) {
		w.t.Errorf("P9.3, O4: %v were held, %v are told, %v are held", was, over, w.p.List())
	}
	w.wantHeldWell("in a life")
}
