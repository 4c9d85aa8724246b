package chain

import (
	"assent/api"
	"assent/council"
	"assent/ledger"
	"assent/wire"
)

// binding is a digest that a header holds, and a closure that reckons what it must be.
type binding struct {
	held *api.Hash
	tell func() (api.Hash, api.Errno)
}

// seats bind who decides the block, and the one behind it.
func (w *work) seats() []binding {
	h := &w.b.Header
	return []binding{
		{&h.Council, func() (api.Hash, api.Errno) { return council.Digest(w.st.Council) }},
		{&h.Next, func() (api.Hash, api.Errno) { return council.Digest(w.st.Next) }},
	}
}

// roots bind the accounts ahead of the block, and what the block holds beside its header.
func (w *work) roots() []binding {
	h := &w.b.Header
	return []binding{
		{&h.State, func() (api.Hash, api.Errno) { return ledger.Root(w.st.Ledger) }},
		{&h.Txs, func() (api.Hash, api.Errno) { return wire.TxsRoot(w.b.Txs) }},
		{&h.Evidence, func() (api.Hash, api.Errno) { return wire.EvidenceRoot(w.b.Evidence) }},
		{&h.Cert, func() (api.Hash, api.Errno) {
			if w.st.Height == 0 { // whatever certificate the block shows: that is refused for itself
				return api.Hash{}, api.OK
			}
			return wire.CertId(w.b.Last)
		}},
	}
}

func areHeld(row []binding) bool {
	for _, d := range row {
		if want, e := d.tell(); e != api.OK || *d.held != want {
			return false
		}
	}
	return true
}

// bind lays the digests down in the header of a block that is made.
func (w *work) bind() (e api.Errno) {
	for _, d := range append(w.seats(), w.roots()...) {
		if *d.held, e = d.tell(); e != api.OK {
			return e
		}
	}
	return api.OK
}
