package cluster

import (
	"slices"

	"assent/api"
	"assent/seal"
	"assent/wire"
)

// Submit hands a node a transaction, which the account's owner signs.
func (c *Cluster) Submit(node int, x api.Tx) api.Errno {
	m, e := c.find(node)
	if e != api.OK {
		return e
	}
	msg, e := wire.TxBytes(c.genesis.Chain, x)
	if e != api.OK {
		return e
	}
	if x.Seal, e = c.signer(x.From).Sign(msg); e != api.OK {
		return e
	}
	e = m.Submit(x)
	c.collect(node)
	return e
}

// Lie has a liar sign a vote or a proposal, and sends the message to a node (-1: to all).
func (c *Cluster) Lie(liar, to int, m api.Msg) api.Errno {
	switch {
	case !c.made():
		return api.ErrNil
	case liar < len(c.machines) || liar >= len(c.addrs):
		return api.ErrActor
	case to < -1 || to >= len(c.machines):
		return api.ErrNode
	}
	m.Votes = slices.Clone(m.Votes)
	if e := (pen{c.genesis.Chain, c.signer(c.addrs[liar])}).sealMsg(&m); e != api.OK {
		return e
	}
	form, e := wire.EncodeMsg(m)
	if e != api.OK {
		return e
	}
	c.send(liar, to, form)
	return api.OK
}

// pen signs for a liar, by a chain's name, what comes from it and bears no seal yet.
type pen struct {
	chain  string
	signer *seal.Signer
}

func (p pen) sealMsg(m *api.Msg) api.Errno {
	for k := range m.Votes {
		if e := p.sealVote(&m.Votes[k]); e != api.OK {
			return e
		}
	}
	switch m.Kind {
	case api.MsgProposal:
		return fill(p, &m.Proposal.Seal, m.Proposal.From, m.Proposal, wire.ProposalBytes)
	case api.MsgTx:
		return fill(p, &m.Tx.Seal, m.Tx.From, m.Tx, wire.TxBytes)
	case api.MsgEvidence:
		if e := p.sealVote(&m.Evidence.A); e != api.OK {
			return e
		}
		return p.sealVote(&m.Evidence.B)
	}
	return api.OK
}

func (p pen) sealVote(v *api.Vote) api.Errno {
	return fill(p, &v.Seal, v.From, *v, wire.VoteBytes)
}

// fill lays down the seal of what a liar is to sign, where none stands.
func fill[T any](p pen, at *api.Seal, from api.Addr, x T, bytesOf func(string, T) ([]byte, api.Errno)) api.Errno {
	if from != p.signer.Addr() || *at != (api.Seal{}) {
		return api.OK
	}
	msg, e := bytesOf(p.chain, x)
	if e != api.OK {
		return e
	}
	*at, e = p.signer.Sign(msg)
	return e
}
