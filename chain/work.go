package chain

import (
	"slices"

	"assent/api"
	"assent/council"
	"assent/ledger"
	"assent/misdeed"
	"assent/seal"
	"assent/wire"
)

// work is a block in hand: one that is made, or looked over, behind a state.
type work struct {
	st     api.State
	r      *seal.Registry
	b      api.Block
	ledger api.Ledger // as far as the block has been worked off
}

// step is one thing that is asked of a block in hand, or done to it; it answers why the block is given up.
type step struct{ take func(w *work) api.Errno }

// through goes through a row of steps till one gives up.
func (w *work) through(row []step) api.Errno {
	for _, s := range row {
		if e := s.take(w); e != api.OK {
			return e
		}
	}
	return api.OK
}

// making is the row by which a block is made.
func making() []step {
	return []step{
		{(*work).hasBase},
		{(*work).hasRoom},
		{(*work).isProposed},
		{(*work).isCertified},
		{(*work).setTime},
		{(*work).keepEvidence},
		{(*work).payAndPunish},
		{(*work).keepTxs},
		{(*work).bind},
	}
}

// looking is the row by which a block is looked over.
func looking() []step {
	return []step{
		{(*work).hasBase},
		{(*work).isPlain},
		{(*work).isOfChain},
		{(*work).hasRoom},
		{(*work).isNext},
		{(*work).isBehindLast},
		{(*work).isSeatsBound},
		{(*work).isRootsBound},
		{(*work).isProposed},
		{(*work).isCertified},
		{(*work).isInTime},
		{(*work).hasFewTxs},
		{(*work).isInOrder},
		{(*work).isProved},
		{(*work).payAndPunish},
		{(*work).applyTxs},
	}
}

// unless is the refusal of what is not as it must be.
func unless(good bool, refusal api.Errno) api.Errno {
	if good {
		return api.OK
	}
	return refusal
}

func (w *work) hasBase() api.Errno {
	if !isRegistry(w.r) {
		return api.ErrNil
	}
	return unless(isSound(w.st), api.ErrArg)
}

func (w *work) isPlain() api.Errno { return wire.PlainBlock(w.b) }

func (w *work) isOfChain() api.Errno { return unless(w.b.Header.Chain == w.st.Chain, api.ErrChain) }

func (w *work) hasRoom() api.Errno { return unless(w.st.Height < api.MaxHeight, api.ErrHeight) }

func (w *work) isNext() api.Errno {
	return unless(w.b.Header.Height == w.st.Height+1, api.ErrHeight)
}

func (w *work) isBehindLast() api.Errno { return unless(w.b.Header.Last == w.st.Last, api.ErrLast) }

func (w *work) isSeatsBound() api.Errno { return unless(areHeld(w.seats()), api.ErrSeats) }

func (w *work) isRootsBound() api.Errno { return unless(areHeld(w.roots()), api.ErrRoots) }

func (w *work) isProposed() api.Errno {
	return unless(council.Index(w.st.Council, w.b.Header.Proposer) >= 0, api.ErrTurn)
}

func (w *work) isCertified() api.Errno { return checkAhead(w.st, w.r, w.b.Last) }

func (w *work) isInTime() api.Errno {
	time, due := dueTime(w.st, w.b.Last)
	return unless(due && w.b.Header.Time == time, api.ErrTime)
}

func (w *work) setTime() api.Errno {
	time, due := dueTime(w.st, w.b.Last)
	w.b.Header.Time = time
	return unless(due, api.ErrTime)
}

func (w *work) hasFewTxs() api.Errno {
	return unless(len(w.b.Txs) <= w.st.Params.MaxTxs, api.ErrBig)
}

// isInOrder: the evidence rises, so that no offence stands there twice.
func (w *work) isInOrder() api.Errno {
	for k, v := range w.b.Evidence {
		if k > 0 && byOffence(w.b.Evidence[k-1], v) >= 0 {
			return api.ErrOrder
		}
	}
	return api.OK
}

func (w *work) isProved() api.Errno {
	for _, v := range w.b.Evidence {
		if e := misdeed.Verify(w.st, w.r, v); e != api.OK {
			return e
		}
	}
	return api.OK
}

// keepEvidence leaves of what is offered what a block may hold, in the order that a block has.
func (w *work) keepEvidence() api.Errno {
	var kept []api.Evidence
	for _, v := range w.b.Evidence {
		if len(kept) == api.MaxEvidence {
			break
		}
		isKept := slices.ContainsFunc(kept, func(k api.Evidence) bool { return offenceOf(k) == offenceOf(v) })
		if !isKept && misdeed.Verify(w.st, w.r, v) == api.OK {
			kept = append(kept, v)
		}
	}
	slices.SortFunc(kept, byOffence)
	w.b.Evidence = kept
	return api.OK
}

// payAndPunish begins the working off: what is due is paid, and then who is in the evidence is punished for the height of its offence.
func (w *work) payAndPunish() api.Errno {
	l, e := ledger.Pay(w.st.Ledger, w.b.Header.Height)
	if e != api.OK {
		return e
	}
	for _, v := range w.b.Evidence {
		l, e = ledger.Punish(l, w.st.Params, v.A.From, v.A.Height)
		if e != api.OK {
			return e
		}
	}
	w.ledger = l
	return api.OK
}

// applyTx works one transaction off; one that is refused changes nothing.
func (w *work) applyTx(x api.Tx) api.Errno {
	h := w.b.Header
	l, e := ledger.Apply(w.ledger, w.r, w.st.Chain, w.st.Params, h.Height, h.Proposer, x)
	if e == api.OK {
		w.ledger = l
	}
	return e
}

func (w *work) applyTxs() api.Errno {
	for _, x := range w.b.Txs {
		if e := w.applyTx(x); e != api.OK {
			return e
		}
	}
	return api.OK
}

// keepTxs works off what the ledger takes of what is offered, and leaves that.
func (w *work) keepTxs() api.Errno {
	var kept []api.Tx
	for _, x := range w.b.Txs {
		if len(kept) == w.st.Params.MaxTxs {
			break
		}
		if w.applyTx(x) == api.OK {
			kept = append(kept, x)
		}
	}
	w.b.Txs = kept
	return api.OK
}

func offenceOf(v api.Evidence) api.Offence { return api.Offence{Height: v.A.Height, Addr: v.A.From} }

func byOffence(x, y api.Evidence) int { return byHeight(offenceOf(x), offenceOf(y)) }
