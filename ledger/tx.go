package ledger

import (
	"math"

	"assent/api"
	"assent/seal"
	"assent/wire"
)

// Check is what Apply would refuse with.
func Check(l api.Ledger, r *seal.Registry, chain string, p api.Params, height uint64, x api.Tx) api.Errno {
	if !isRegistry(r) {
		return api.ErrNil
	}
	if !isHeight(height) || p.Period > api.MaxHeights {
		return api.ErrArg
	}
	msg, e := wire.TxBytes(chain, x)
	if e != api.OK {
		return e
	}
	if !r.Check(x.From, msg, x.Seal) {
		return api.ErrSeal
	}
	at, found := accountAt(l.Accounts, x.From)
	if !found {
		return api.ErrNobody
	}
	acc := l.Accounts[at]
	if x.Nonce != acc.Nonce || x.Nonce == math.MaxUint64 {
		return api.ErrNonce
	}
	if spent(x) > acc.Balance {
		return api.ErrFunds
	}
	return checkKind(l, p, height, acc, x)
}

// Apply works a transaction of a block off; the fee goes to its proposer.
func Apply(l api.Ledger, r *seal.Registry, chain string, p api.Params, height uint64, proposer api.Addr, x api.Tx) (api.Ledger, api.Errno) {
	if e := Check(l, r, chain, p, height, x); e != api.OK {
		return api.Ledger{}, e
	}
	next := copyOf(l)
	at, _ := accountAt(next.Accounts, x.From)
	acc := &next.Accounts[at]
	acc.Nonce++
	acc.Balance -= spent(x)
	switch x.Kind {
	case api.TxPay:
		next.Accounts = credited(next.Accounts, x.To, x.Amount)
	case api.TxBond:
		acc.Bond += x.Amount
	case api.TxUnbond:
		acc.Bond -= x.Amount
		next.Releases = letGo(next.Releases, api.Release{Height: height + p.Period, Addr: x.From, Born: height, Amount: x.Amount})
	case api.TxFree:
		acc.Jailed = false
	}
	if at, found := accountAt(next.Accounts, proposer); found {
		next.Accounts[at].Balance += x.Fee
	} else {
		next.Burnt += x.Fee
	}
	return next, api.OK
}

// isRegistry: did seal make it? Nobody can be entered as 0, so this enters nobody.
func isRegistry(r *seal.Registry) bool {
	_, e := r.Enter(0)
	return e != api.ErrNil
}

// spent is what goes from the sender's balance, wherever it goes to. Of a plain transaction it can't wrap.
func spent(x api.Tx) uint64 {
	if x.Kind == api.TxPay || x.Kind == api.TxBond {
		return x.Fee + x.Amount
	}
	return x.Fee
}

// checkKind is what is asked of a transaction by its kind alone, behind all else.
func checkKind(l api.Ledger, p api.Params, height uint64, acc api.Account, x api.Tx) api.Errno {
	switch x.Kind {
	case api.TxPay:
		if _, found := accountAt(l.Accounts, x.To); !found && len(l.Accounts) >= api.MaxAccounts {
			return api.ErrCrowd
		}
	case api.TxUnbond:
		if x.Amount == 0 || x.Amount > acc.Bond {
			return api.ErrBond
		}
		if _, found := rowAt(l.Releases, height+p.Period, x.From); !found && len(l.Releases) >= api.MaxItems {
			return api.ErrCrowd
		}
	case api.TxFree:
		if !acc.Jailed {
			return api.ErrJail
		}
		if acc.Bond < p.MinBond {
			return api.ErrBond
		}
	}
	return api.OK
}

// credited changes accounts that are the caller's own: one of them, made if it is not there, has so much more.
func credited(accounts []api.Account, a api.Addr, amount uint64) []api.Account {
	at, found := accountAt(accounts, a)
	if !found {
		return inserted(accounts, at, api.Account{Addr: a, Balance: amount})
	}
	accounts[at].Balance += amount
	return accounts
}

// letGo changes rows that are the caller's own: that of the same height and account grows, and stays born when it was; else there is one more.
func letGo(rows []api.Release, more api.Release) []api.Release {
	at, found := rowAt(rows, more.Height, more.Addr)
	if !found {
		return inserted(rows, at, more)
	}
	rows[at].Amount += more.Amount
	return rows
}
