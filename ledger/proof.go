package ledger

import (
	"assent/api"
	"assent/codec"
	"assent/digest"
)

// Root binds the accounts and releases.
func Root(l api.Ledger) (api.Hash, api.Errno) {
	if e := Sound(l); e != api.OK {
		return api.Hash{}, e
	}
	top, e := digest.Root(formsOf(l.Accounts))
	if e != api.OK {
		return api.Hash{}, e
	}
	return digest.Inner(top, restOf(l)), api.OK
}

// Prove shows what an account is, or that there is none.
func Prove(l api.Ledger, a api.Addr) (api.Witness, api.Errno) {
	if e := Sound(l); e != api.OK {
		return api.Witness{}, e
	}
	w := api.Witness{Rest: restOf(l)}
	forms := formsOf(l.Accounts)
	for _, at := range shownFor(l.Accounts, a) {
		q, e := digest.Prove(forms, at)
		if e != api.OK {
			return api.Witness{}, e
		}
		w.Accounts = append(w.Accounts, l.Accounts[at])
		w.Proofs = append(w.Proofs, q)
	}
	return w, api.OK
}

// Verify reads that: the account, and whether there is one.
func Verify(root api.Hash, a api.Addr, w api.Witness) (api.Account, bool, api.Errno) {
	if len(w.Accounts) > 2 || len(w.Proofs) != len(w.Accounts) {
		return api.Account{}, false, api.ErrProof
	}
	switch len(w.Accounts) {
	case 0:
		return api.Account{}, false, verifyNone(root, w)
	case 1:
		return verifyOne(root, a, w)
	}
	return api.Account{}, false, verifyGap(root, a, w)
}

// shownFor are the places of the accounts that show what a is: its own, or those of its neighbours.
func shownFor(accounts []api.Account, a api.Addr) []int {
	at, found := accountAt(accounts, a)
	if found {
		return []int{at}
	}
	var places []int
	if at > 0 {
		places = append(places, at-1)
	}
	if at < len(accounts) {
		places = append(places, at)
	}
	return places
}

// verifyNone: are there no accounts at all under the root?
func verifyNone(root api.Hash, w api.Witness) api.Errno {
	top, e := digest.Root(nil)
	if e != api.OK {
		return e
	}
	if digest.Inner(top, w.Rest) != root {
		return api.ErrRoot
	}
	return api.OK
}

// verifyOne reads one account: it is the one that is asked for, or the first or the last of all, with that one beyond it.
func verifyOne(root api.Hash, a api.Addr, w api.Witness) (api.Account, bool, api.Errno) {
	x, q := w.Accounts[0], w.Proofs[0]
	if x.Addr > a && q.Index != 0 || x.Addr < a && q.Index != q.Total-1 {
		return api.Account{}, false, api.ErrProof
	}
	if _, e := topOf(root, w); e != api.OK {
		return api.Account{}, false, e
	}
	if x.Addr != a {
		return api.Account{}, false, api.OK
	}
	return x, true, api.OK
}

// verifyGap: do the two accounts stand side by side, and the one that is asked for would stand between them?
func verifyGap(root api.Hash, a api.Addr, w api.Witness) api.Errno {
	x, y, q, s := w.Accounts[0], w.Accounts[1], w.Proofs[0], w.Proofs[1]
	if x.Addr >= a || y.Addr <= a || s.Total != q.Total || s.Index != q.Index+1 {
		return api.ErrProof
	}
	top, e := topOf(root, w)
	if e != api.OK {
		return e
	}
	return digest.Verify(top, s, formOf(y))
}

// topOf is the accounts' root, to which the first account's proof leads, if the ledger's root is made of it and of the rest.
func topOf(root api.Hash, w api.Witness) (api.Hash, api.Errno) {
	top, e := digest.Path(w.Proofs[0], formOf(w.Accounts[0]))
	if e != api.OK {
		return api.Hash{}, e
	}
	if digest.Inner(top, w.Rest) != root {
		return api.Hash{}, api.ErrRoot
	}
	return top, api.OK
}

func formsOf(accounts []api.Account) [][]byte {
	forms := make([][]byte, len(accounts))
	for k, acc := range accounts {
		forms[k] = formOf(acc)
	}
	return forms
}

// formOf is an account's bytes under the root: always as many, so a Writer has nothing to refuse.
func formOf(acc api.Account) []byte {
	w := codec.NewWriter()
	w.U64(uint64(acc.Addr))
	w.U64(acc.Balance)
	w.U64(acc.Bond)
	w.U64(acc.Nonce)
	w.Bool(acc.Jailed)
	form, _ := w.Out()
	return form
}

// restOf binds all that a ledger holds beside its accounts.
func restOf(l api.Ledger) api.Hash {
	w := codec.NewWriter()
	w.U64(uint64(len(l.Releases)))
	for _, row := range l.Releases {
		w.U64(row.Height)
		w.U64(uint64(row.Addr))
		w.U64(row.Born)
		w.U64(row.Amount)
	}
	w.U64(l.Burnt)
	w.U64(l.Supply)
	laid, _ := w.Out()
	return digest.Sum(laid)
}
