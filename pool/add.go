package pool

import (
	"math"

	"assent/api"
	"assent/ledger"
	"assent/seal"
	"assent/wire"
)

// Add takes one, behind a chain's state.
func (p *Pool) Add(st api.State, r *seal.Registry, x api.Tx) api.Errno {
	if !p.made() || !isRegistry(r) {
		return api.ErrNil
	}
	id, e := sealedId(st.Chain, r, x)
	if e != api.OK {
		return e
	}
	if p.Has(id) {
		return api.ErrKnown
	}
	acc, e := ledger.Find(st.Ledger, x.From)
	if e != api.OK {
		return e
	}
	if e := p.checkBehind(acc, x); e != api.OK {
		return e
	}
	if e := p.makeRoom(x); e != api.OK {
		return e
	}
	p.put(id, x)
	return api.OK
}

// sealedId is the id of a plain transaction that its From has sealed.
func sealedId(chain string, r *seal.Registry, x api.Tx) (api.Hash, api.Errno) {
	// TxId refuses just what PlainTx refuses, and is asked first: TxBytes would look at the chain's name ahead of the transaction.
	id, e := wire.TxId(x)
	if e != api.OK {
		return api.Hash{}, e
	}
	msg, e := wire.TxBytes(chain, x)
	if e != api.OK {
		return api.Hash{}, e
	}
	if !r.Check(x.From, msg, x.Seal) {
		return api.Hash{}, api.ErrSeal
	}
	return id, api.OK
}

// checkBehind asks whether x can follow what is held of its account, and whether the account can pay for all of it.
func (p *Pool) checkBehind(acc api.Account, x api.Tx) api.Errno {
	if x.Nonce < acc.Nonce {
		return api.ErrPast
	}
	ahead := x.Nonce - acc.Nonce
	if ahead >= api.MaxAhead || x.Nonce == math.MaxUint64 {
		return api.ErrFar
	}
	row := p.row(x.From, acc.Nonce)
	if uint64(len(row)) < ahead {
		return api.ErrFar
	}
	if !affords(acc.Balance, append(row[:ahead], x)) {
		return api.ErrPoor
	}
	return api.OK
}

// makeRoom drops the one whose place x takes, if there must be one; ErrCheap, if x does not pay more.
func (p *Pool) makeRoom(x api.Tx) api.Errno {
	loser, held := p.held[placeOf(x)]
	if !held {
		if len(p.held) < p.most {
			return api.OK
		}
		if loser, held = p.cheapestLast(x.From); !held {
			return api.ErrCheap
		}
	}
	if x.Fee <= loser.Fee {
		return api.ErrCheap
	}
	p.drop(loser)
	return api.OK
}

// cheapestLast is the least dear of all that are the last of their account, but for one account; false, if there is none.
func (p *Pool) cheapestLast(but api.Addr) (api.Tx, bool) {
	last := map[api.Addr]uint64{} // by the greatest nonce: there may be gaps below it
	for at := range p.held {
		last[at.from] = max(last[at.from], at.nonce)
	}
	var cheapest api.Tx
	found := false
	for at, x := range p.held {
		if at.from != but && at.nonce == last[at.from] && (!found || byDearness(cheapest, x) < 0) {
			cheapest, found = x, true
		}
	}
	return cheapest, found
}

// affords takes the costs from the balance one by one: their sum could wrap.
func affords(balance uint64, list []api.Tx) bool {
	for _, x := range list {
		if cost(x) > balance {
			return false
		}
		balance -= cost(x)
	}
	return true
}

// cost is of a plain transaction, of which it can't wrap.
func cost(x api.Tx) uint64 {
	if x.Kind == api.TxPay || x.Kind == api.TxBond {
		return x.Fee + x.Amount
	}
	return x.Fee
}
