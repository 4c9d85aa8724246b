package wire

import (
	"bytes"

	"assent/api"
)

func isHeight(n uint64) bool { return n >= 1 && n <= api.MaxHeight }

func isTime(n uint64) bool { return n <= api.MaxTime }

func isRound(n int) bool { return n >= 0 && n <= api.MaxRound }

func isAmount(n uint64) bool { return n <= api.MaxSupply }

func isChain(s string) bool { return len(s) >= 1 && len(s) <= api.MaxChain }

func isNone(h api.Hash) bool { return h == api.Hash{} }

// fieldUnless is the error of a field that may not be.
func fieldUnless(good bool) api.Errno {
	if good {
		return api.OK
	}
	return api.ErrField
}

// firstWrong is the first error of the elements, from the first on.
func firstWrong[T any](l []T, plain func(T) api.Errno) api.Errno {
	for _, x := range l {
		if e := plain(x); e != api.OK {
			return e
		}
	}
	return api.OK
}

// PlainTx is the first thing that is wrong with it by itself.
func PlainTx(x api.Tx) api.Errno {
	if x.Kind < api.TxPay || x.Kind > api.TxFree {
		return api.ErrKind
	}
	to := (x.Kind == api.TxPay) == (x.To != 0)
	amount := isAmount(x.Amount) && (x.Kind != api.TxFree || x.Amount == 0)
	return fieldUnless(x.From != 0 && to && amount && isAmount(x.Fee))
}

// PlainVote is the first thing that is wrong with it by itself.
func PlainVote(x api.Vote) api.Errno {
	if x.Kind != api.Prevote && x.Kind != api.Precommit {
		return api.ErrKind
	}
	timed := x.Kind == api.Precommit && !isNone(x.Id)
	time := isTime(x.Time) && (timed || x.Time == 0)
	return fieldUnless(isHeight(x.Height) && isRound(x.Round) && time && x.From != 0)
}

// PlainProposal is the first thing that is wrong with it by itself.
func PlainProposal(x api.Proposal) api.Errno {
	valid := x.ValidRound >= -1 && x.ValidRound < x.Round
	return fieldUnless(isHeight(x.Height) && isRound(x.Round) && valid && !isNone(x.Id) && x.From != 0)
}

// isZeroCert: it is the zero certificate, which stands for the one that the first block has not.
func isZeroCert(x api.Cert) bool {
	return x.Height == 0 && x.Round == 0 && isNone(x.Id) && len(x.Marks) == 0
}

// PlainCert is the first thing that is wrong with it by itself.
func PlainCert(x api.Cert) api.Errno {
	switch {
	case isZeroCert(x):
		return api.OK
	case !isHeight(x.Height) || !isRound(x.Round) || isNone(x.Id):
		return api.ErrField
	case len(x.Marks) > api.MaxSeats:
		return api.ErrBig
	}
	ahead := -1
	for _, m := range x.Marks {
		if m.Index < 0 || m.Index >= api.MaxSeats || !isTime(m.Time) {
			return api.ErrField
		}
		if m.Index <= ahead {
			return api.ErrOrder
		}
		ahead = m.Index
	}
	return api.OK
}

// PlainEvidence is the first thing that is wrong with it by itself.
func PlainEvidence(x api.Evidence) api.Errno {
	a, b := x.A, x.B
	if e := firstWrong([]api.Vote{a, b}, PlainVote); e != api.OK {
		return e
	}
	if a.Kind != b.Kind || a.Height != b.Height || a.Round != b.Round || a.From != b.From {
		return api.ErrField
	}
	if bytes.Compare(a.Id[:], b.Id[:]) >= 0 {
		return api.ErrOrder
	}
	return api.OK
}

// PlainHeader is the first thing that is wrong with it by itself.
func PlainHeader(x api.Header) api.Errno {
	return fieldUnless(isChain(x.Chain) && isHeight(x.Height) && isTime(x.Time) && x.Proposer != 0)
}

// PlainBlock is the first thing that is wrong with it by itself.
func PlainBlock(x api.Block) api.Errno {
	if e := PlainHeader(x.Header); e != api.OK {
		return e
	}
	if len(x.Txs) > api.MaxTxs {
		return api.ErrBig
	}
	if e := firstWrong(x.Txs, PlainTx); e != api.OK {
		return e
	}
	if len(x.Evidence) > api.MaxEvidence {
		return api.ErrBig
	}
	if e := firstWrong(x.Evidence, PlainEvidence); e != api.OK {
		return e
	}
	return PlainCert(x.Last)
}

// plainVotes is what is wrong with a list of votes: one a member, by rising members.
func plainVotes(l []api.Vote) api.Errno {
	if len(l) > api.MaxSeats {
		return api.ErrBig
	}
	var ahead api.Addr // no plain vote is from 0
	for _, v := range l {
		if e := PlainVote(v); e != api.OK {
			return e
		}
		if v.From <= ahead {
			return api.ErrOrder
		}
		ahead = v.From
	}
	return api.OK
}
