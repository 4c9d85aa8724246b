package wire

import (
	"assent/api"
	"assent/codec"
)

// load is what a Msg or an Input carries: the fields of both, so that both are made of the same parts.
type load struct {
	api.Msg
	now  uint64
	good bool
	step int
}

// part is a field of a load, in the way in which a kind uses it.
type part struct {
	zero  func(*load) bool
	plain func(*load) api.Errno
	lay   func(*codec.Writer, *load)
	read  func(*codec.Reader, *load)
}

// everyPart has each field of a load once. It is asked whether they are zero alone, and that is the same for all ways of using a field.
func everyPart() []part {
	return []part{
		proposalPart(), blockPart(), votesPart(plainVotes), certPart(), txPart(), evidencePart(),
		heightPart(), roundPart(), nowPart(), goodPart(), stepPart(),
	}
}

func proposalPart() part {
	return part{
		zero:  func(x *load) bool { return x.Proposal == api.Proposal{} },
		plain: func(x *load) api.Errno { return PlainProposal(x.Proposal) },
		lay:   func(w *codec.Writer, x *load) { laySealedProposal(w, x.Proposal) },
		read:  func(r *codec.Reader, x *load) { x.Proposal = readSealedProposal(r) },
	}
}

func blockPart() part {
	return part{
		zero:  func(x *load) bool { return isZeroBlock(x.Block) },
		plain: func(x *load) api.Errno { return PlainBlock(x.Block) },
		lay:   func(w *codec.Writer, x *load) { layBlock(w, x.Block) },
		read:  func(r *codec.Reader, x *load) { x.Block = readBlock(r) },
	}
}

func isZeroBlock(x api.Block) bool {
	return x.Header == api.Header{} && len(x.Txs) == 0 && len(x.Evidence) == 0 && isZeroCert(x.Last)
}

// votesPart is a list of votes.
func votesPart(plain func([]api.Vote) api.Errno) part {
	return part{
		zero:  func(x *load) bool { return len(x.Votes) == 0 },
		plain: func(x *load) api.Errno { return plain(x.Votes) },
		lay:   func(w *codec.Writer, x *load) { layList(w, x.Votes, laySealedVote) },
		read:  func(r *codec.Reader, x *load) { x.Votes = readList(r, api.MaxSeats, readSealedVote) },
	}
}

// validPart is the votes beside a proposal: those of its ValidRound, if it has one.
func validPart() part {
	p := votesPart(plainVotes)
	p.plain = func(x *load) api.Errno {
		if x.Proposal.ValidRound == -1 {
			return fieldUnless(len(x.Votes) == 0)
		}
		return plainVotes(x.Votes)
	}
	return p
}

// polkaPart is votes of which there must be some.
func polkaPart() part {
	return votesPart(func(l []api.Vote) api.Errno {
		if len(l) == 0 {
			return api.ErrField
		}
		return plainVotes(l)
	})
}

// votePart is the votes where there is just one: so its form needs no Count.
func votePart() part {
	return part{
		zero: func(x *load) bool { return len(x.Votes) == 0 },
		plain: func(x *load) api.Errno {
			if len(x.Votes) != 1 {
				return api.ErrField
			}
			return PlainVote(x.Votes[0])
		},
		lay:  func(w *codec.Writer, x *load) { laySealedVote(w, x.Votes[0]) },
		read: func(r *codec.Reader, x *load) { x.Votes = []api.Vote{readSealedVote(r)} },
	}
}

// certPart is a certificate that decides something: the zero one does not.
func certPart() part {
	return part{
		zero: func(x *load) bool { return isZeroCert(x.Cert) },
		plain: func(x *load) api.Errno {
			if isZeroCert(x.Cert) {
				return api.ErrField
			}
			return PlainCert(x.Cert)
		},
		lay:  func(w *codec.Writer, x *load) { layCert(w, x.Cert) },
		read: func(r *codec.Reader, x *load) { x.Cert = readCert(r) },
	}
}

func txPart() part {
	return part{
		zero:  func(x *load) bool { return x.Tx == api.Tx{} },
		plain: func(x *load) api.Errno { return PlainTx(x.Tx) },
		lay:   func(w *codec.Writer, x *load) { laySealedTx(w, x.Tx) },
		read:  func(r *codec.Reader, x *load) { x.Tx = readTx(r) },
	}
}

func evidencePart() part {
	return part{
		zero:  func(x *load) bool { return x.Evidence == api.Evidence{} },
		plain: func(x *load) api.Errno { return PlainEvidence(x.Evidence) },
		lay:   func(w *codec.Writer, x *load) { layEvidence(w, x.Evidence) },
		read:  func(r *codec.Reader, x *load) { x.Evidence = readEvidence(r) },
	}
}

func heightPart() part {
	return part{
		zero:  func(x *load) bool { return x.Height == 0 },
		plain: func(x *load) api.Errno { return fieldUnless(isHeight(x.Height)) },
		lay:   func(w *codec.Writer, x *load) { w.Var(x.Height) },
		read:  func(r *codec.Reader, x *load) { x.Height = r.Var() },
	}
}

func roundPart() part {
	return part{
		zero:  func(x *load) bool { return x.Round == 0 },
		plain: func(x *load) api.Errno { return fieldUnless(isRound(x.Round)) },
		lay:   func(w *codec.Writer, x *load) { w.Var(uint64(x.Round)) },
		read:  func(r *codec.Reader, x *load) { x.Round = readInt(r) },
	}
}

func nowPart() part {
	return part{
		zero:  func(x *load) bool { return x.now == 0 },
		plain: func(x *load) api.Errno { return fieldUnless(isTime(x.now)) },
		lay:   func(w *codec.Writer, x *load) { w.Var(x.now) },
		read:  func(r *codec.Reader, x *load) { x.now = r.Var() },
	}
}

func goodPart() part {
	return part{
		zero:  func(x *load) bool { return !x.good },
		plain: func(*load) api.Errno { return api.OK },
		lay:   func(w *codec.Writer, x *load) { w.Bool(x.good) },
		read:  func(r *codec.Reader, x *load) { x.good = r.Bool() },
	}
}

func stepPart() part {
	return part{
		zero: func(x *load) bool { return x.step == 0 },
		plain: func(x *load) api.Errno {
			return fieldUnless(x.step >= api.StepPropose && x.step <= api.StepPrecommit)
		},
		lay:  func(w *codec.Writer, x *load) { w.Byte(byte(x.step)) },
		read: func(r *codec.Reader, x *load) { x.step = int(r.Byte()) },
	}
}
