package pool

import (
	"assent/api"
	"assent/ledger"
	"assent/seal"
)

// Pick are those that a block behind the state is made of.
func (p *Pool) Pick(st api.State, r *seal.Registry, proposer api.Addr) []api.Tx {
	if !p.made() || !isRegistry(r) || st.Height >= api.MaxHeight {
		return nil
	}
	height := st.Height + 1
	l, e := ledger.Pay(st.Ledger, height)
	if e != api.OK {
		return nil
	}
	rows := p.rowsBehind(l.Accounts)
	var picked []api.Tx
	for len(picked) < st.Params.MaxTxs && rows.count() > 0 {
		row := rows.pop()
		next, e := ledger.Apply(l, r, st.Chain, st.Params, height, proposer, row[0])
		if e != api.OK {
			continue // and the rest of its row is gone with it: what is behind a gap can't be played
		}
		l = next
		picked = append(picked, row[0])
		if rest := row[1:]; len(rest) > 0 {
			rows.push(rest)
		}
	}
	return picked
}

// rowsBehind are the rows that can be played behind these accounts, the one that begins with the dearest first.
func (p *Pool) rowsBehind(accounts []api.Account) *heap[[]api.Tx] {
	rows := newHeap(func(x, y []api.Tx) bool { return byDearness(x[0], y[0]) < 0 })
	for _, acc := range accounts {
		if row := p.row(acc.Addr, acc.Nonce); len(row) > 0 {
			rows.push(row)
		}
	}
	return rows
}
