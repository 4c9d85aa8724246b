package blame

import (
	"bytes"

	"assent/api"
	"assent/chain"
	"assent/council"
	"assent/seal"
	"assent/wire"
)

// court is what all is judged by: the chain's name, the council of the height, and the book of seals.
type court struct {
	name string
	c    api.Council
	r    *seal.Registry
}

// usable: a registry enters nobody for 0, and tells by its refusal whether it is one.
func (j court) usable() api.Errno {
	if _, e := j.r.Enter(0); e == api.ErrNil {
		return api.ErrNil
	}
	return council.Sound(j.c)
}

// refusal tells why two certificates give nothing to ask about.
func (j court) refusal(a, b api.Cert) api.Errno {
	if e := j.usable(); e != api.OK {
		return e
	}
	for _, x := range [...]api.Cert{a, b} {
		if e := chain.CheckCert(j.c, j.r, j.name, x); e != api.OK {
			return e
		}
	}
	return unless(a.Height == b.Height && a.Id != b.Id, api.ErrSame)
}

// charge looks at what a guilt says, its seals and reasons aside.
func (j court) charge(g api.Guilt) api.Errno {
	switch {
	case !j.isMember(g.Addr):
		return api.ErrMember
	case g.Kind != api.GuiltTwice && g.Kind != api.GuiltForget:
		return api.ErrArg
	}
	for _, v := range [...]api.Vote{g.A, g.B} {
		if e := wire.PlainVote(v); e != api.OK {
			return e
		}
	}
	if g.A.From != g.Addr || g.B.From != g.Addr || g.A.Height != g.B.Height {
		return api.ErrPair
	}
	if g.Kind == api.GuiltTwice {
		return unless(contradict(g.A, g.B), api.ErrPair)
	}
	return unless(swerve(g.A, g.B), api.ErrPair)
}

// contradict: are these two votes of one member the two that it may not both give, the lesser id ahead?
func contradict(a, b api.Vote) bool {
	return a.Kind == b.Kind && a.Round == b.Round && bytes.Compare(a.Id[:], b.Id[:]) < 0
}

// swerve: has one who precommitted a gone over to another block by b? Whether it had a reason is another question.
func swerve(a, b api.Vote) bool {
	return a.Kind == api.Precommit && b.Kind == api.Prevote && isBlock(a.Id) && isBlock(b.Id) && a.Id != b.Id && b.Round > a.Round
}

func isBlock(id api.Hash) bool { return id != api.Hash{} }

func (j court) isMember(a api.Addr) bool { return council.Index(j.c, a) >= 0 }

// isSealed is false of a vote that is not plain too: it has no bytes that could be signed.
func (j court) isSealed(v api.Vote) bool {
	msg, e := wire.VoteBytes(j.name, v)
	return e == api.OK && j.r.Check(v.From, msg, v.Seal)
}

// marked are the votes that the marks of a good certificate stand for.
func (j court) marked(x api.Cert) (votes []api.Vote) {
	for _, m := range x.Marks {
		votes = append(votes, api.Vote{Kind: api.Precommit, Height: x.Height, Round: x.Round, Id: x.Id, Time: m.Time, From: j.c.Members[m.Index].Addr, Seal: m.Seal})
	}
	return votes
}

func unless(good bool, e api.Errno) api.Errno {
	if good {
		return api.OK
	}
	return e
}
