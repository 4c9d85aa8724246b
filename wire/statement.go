package wire

import (
	"assent/api"
	"assent/codec"
)

// statement is what is signed of a thing: that, and the chain for which it is meant, so that no seal is good on another chain.
type statement[T any] struct {
	chain string
	thing T
}

// TxBytes is what is signed of a transaction.
func TxBytes(chain string, x api.Tx) ([]byte, api.Errno) {
	return encodeStatement('T', statement[api.Tx]{chain, x}, PlainTx, layTx)
}

// VoteBytes is what is signed of a vote.
func VoteBytes(chain string, x api.Vote) ([]byte, api.Errno) {
	return encodeStatement('V', statement[api.Vote]{chain, x}, PlainVote, layVote)
}

// ProposalBytes is what is signed of a proposal.
func ProposalBytes(chain string, x api.Proposal) ([]byte, api.Errno) {
	return encodeStatement('P', statement[api.Proposal]{chain, x}, PlainProposal, layProposal)
}

// ReadVoteBytes reads what is signed of a vote: the chain's name, and the vote without its seal.
func ReadVoteBytes(b []byte) (string, api.Vote, api.Errno) {
	return decodeStatement('V', b, PlainVote, readVote)
}

// ReadProposalBytes reads what is signed of a proposal: the chain's name, and the proposal without its seal.
func ReadProposalBytes(b []byte) (string, api.Proposal, api.Errno) {
	return decodeStatement('P', b, PlainProposal, readProposal)
}

func plainStatement[T any](x statement[T], plain func(T) api.Errno) api.Errno {
	if !isChain(x.chain) {
		return api.ErrField
	}
	return plain(x.thing)
}

func encodeStatement[T any](letter byte, x statement[T], plain func(T) api.Errno, lay func(*codec.Writer, T, layBytes)) ([]byte, api.Errno) {
	whole := func(x statement[T]) api.Errno { return plainStatement(x, plain) }
	return encode(x, whole, func(w *codec.Writer, x statement[T]) {
		w.Byte(letter)
		w.Text(x.chain)
		lay(w, x.thing, layNone)
	})
}

func decodeStatement[T any](letter byte, b []byte, plain func(T) api.Errno, read func(*codec.Reader, readBytes) T) (string, T, api.Errno) {
	if len(b) > 0 && b[0] != letter {
		var none T
		return "", none, api.ErrKind
	}
	whole := func(x statement[T]) api.Errno { return plainStatement(x, plain) }
	x, e := decode(b, func(r *codec.Reader) statement[T] {
		r.Byte()
		return statement[T]{r.Text(api.MaxChain), read(r, readNone)}
	}, whole)
	return x.chain, x.thing, e
}
