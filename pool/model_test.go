package pool_test

import (
	"math/big"
	"slices"

	"assent/api"
	"assent/ledger"
	"assent/seal"
	"assent/wire"
)

// model is a pool by another hand: a list of what is held, gone through from its beginning for every question.
type model struct {
	most int
	list []api.Tx
}

// modelDearer: is x the dearer of the two?
func modelDearer(x, y api.Tx) bool {
	if x.Fee != y.Fee {
		return x.Fee > y.Fee
	}
	if x.From != y.From {
		return x.From < y.From
	}
	return x.Nonce < y.Nonce
}

func modelOrder(x, y api.Tx) int {
	switch {
	case modelDearer(x, y):
		return -1
	case modelDearer(y, x):
		return 1
	}
	return 0
}

func (m *model) at(from api.Addr, nonce uint64) int {
	return slices.IndexFunc(m.list, func(x api.Tx) bool { return x.From == from && x.Nonce == nonce })
}

func modelAccount(accounts []api.Account, a api.Addr) (api.Account, bool) {
	for _, acc := range accounts {
		if acc.Addr == a {
			return acc, true
		}
	}
	return api.Account{}, false
}

func modelCost(x api.Tx) *big.Int {
	sum := new(big.Int).SetUint64(x.Fee)
	if x.Kind == api.TxPay || x.Kind == api.TxBond {
		sum.Add(sum, new(big.Int).SetUint64(x.Amount))
	}
	return sum
}

// refusal is what is asked of a transaction by itself, its seal and its account.
func (m *model) refusal(st api.State, r *seal.Registry, x api.Tx) api.Errno {
	if e := wire.PlainTx(x); e != api.OK {
		return e
	}
	msg, e := wire.TxBytes(st.Chain, x)
	if e != api.OK {
		return e
	}
	if !r.Check(x.From, msg, x.Seal) {
		return api.ErrSeal
	}
	if slices.Contains(m.list, x) {
		return api.ErrKnown
	}
	acc, found := modelAccount(st.Ledger.Accounts, x.From)
	if !found {
		return api.ErrNobody
	}
	if x.Nonce < acc.Nonce {
		return api.ErrPast
	}
	if x.Nonce-acc.Nonce >= 16 || x.Nonce+1 == 0 {
		return api.ErrFar
	}
	all := modelCost(x)
	for n := acc.Nonce; n < x.Nonce; n++ {
		k := m.at(x.From, n)
		if k < 0 {
			return api.ErrFar
		}
		all.Add(all, modelCost(m.list[k]))
	}
	if all.Cmp(new(big.Int).SetUint64(acc.Balance)) > 0 {
		return api.ErrPoor
	}
	return api.OK
}

// cheapestLast is the place of the one that a full pool would rather not have; -1, if there is none.
func (m *model) cheapestLast(but api.Addr) int {
	c := -1
	for k, x := range m.list {
		isLast := !slices.ContainsFunc(m.list, func(y api.Tx) bool { return y.From == x.From && y.Nonce > x.Nonce })
		if isLast && x.From != but && (c < 0 || modelDearer(m.list[c], x)) {
			c = k
		}
	}
	return c
}

func (m *model) add(st api.State, r *seal.Registry, x api.Tx) api.Errno {
	if e := m.refusal(st, r, x); e != api.OK {
		return e
	}
	k := m.at(x.From, x.Nonce)
	if k < 0 && len(m.list) < m.most {
		m.list = append(m.list, x)
		return api.OK
	}
	if k < 0 {
		k = m.cheapestLast(x.From)
	}
	if k < 0 || x.Fee <= m.list[k].Fee {
		return api.ErrCheap
	}
	m.list[k] = x
	return api.OK
}

func (m *model) recheck(st api.State) (over []api.Tx) {
	var stay []api.Tx
	for _, x := range m.list {
		if acc, found := modelAccount(st.Ledger.Accounts, x.From); found && acc.Nonce > x.Nonce {
			over = append(over, x)
		} else {
			stay = append(stay, x)
		}
	}
	m.list = stay
	slices.SortFunc(over, modelOrder)
	return over
}

// pick plays a sound state ahead. Of each From it keeps which nonce is next, or that its row is gone.
func (m *model) pick(st api.State, r *seal.Registry, proposer api.Addr) (picked []api.Tx) {
	if st.Height >= api.MaxHeight {
		return nil
	}
	l, e := ledger.Pay(st.Ledger, st.Height+1)
	if e != api.OK {
		return nil
	}
	next := map[api.Addr]uint64{}
	for _, acc := range l.Accounts {
		next[acc.Addr] = acc.Nonce
	}
	for len(picked) < st.Params.MaxTxs {
		best := -1
		for k, x := range m.list {
			if n, found := next[x.From]; found && n == x.Nonce && (best < 0 || modelDearer(x, m.list[best])) {
				best = k
			}
		}
		if best < 0 {
			break
		}
		x := m.list[best]
		after, e := ledger.Apply(l, r, st.Chain, st.Params, st.Height+1, proposer, x)
		if e != api.OK {
			delete(next, x.From)
			continue
		}
		l = after
		picked = append(picked, x)
		next[x.From]++
	}
	return picked
}

func (m *model) sorted() []api.Tx {
	list := slices.Clone(m.list)
	slices.SortFunc(list, modelOrder)
	return list
}
