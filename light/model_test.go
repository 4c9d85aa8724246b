package light_test

import (
	"encoding/binary"
	"math/big"

	"assent/api"
	"assent/council"
	"assent/digest"
	"assent/seal"
	"assent/wire"
)

// What follows says the chapter once more, by another hand: numbers of any size, plain lists, one sentence behind the other.

// modelFault is something that is wrong, and by which step.
type modelFault struct {
	step string
	e    api.Errno
}

func wide(n uint64) *big.Int { return new(big.Int).SetUint64(n) }

func plus(a, b uint64) *big.Int { return new(big.Int).Add(wide(a), wide(b)) }

// modelDigest is that of a council of any content.
func modelDigest(c api.Council) api.Hash {
	var items [][]byte
	for _, m := range c.Members {
		items = append(items, binary.LittleEndian.AppendUint64(binary.LittleEndian.AppendUint64(nil, uint64(m.Addr)), m.Power))
	}
	h, _ := digest.Root(items)
	return h
}

func modelCheck(c api.Council, r *seal.Registry, name string, x api.Cert) api.Errno {
	if e := council.Sound(c); e != api.OK {
		return e
	}
	if e := wire.PlainCert(x); e != api.OK {
		return e
	}
	if x.Height == 0 {
		return api.ErrCert
	}
	for _, m := range x.Marks {
		if m.Index >= len(c.Members) {
			return api.ErrMember
		}
	}
	power, all := new(big.Int), new(big.Int)
	for _, m := range x.Marks {
		member := c.Members[m.Index]
		msg, e := wire.VoteBytes(name, api.Vote{Kind: api.Precommit, Height: x.Height, Round: x.Round, Id: x.Id, Time: m.Time, From: member.Addr})
		if e != api.OK {
			return e
		}
		if !r.Check(member.Addr, msg, m.Seal) {
			return api.ErrSeal
		}
		power.Add(power, wide(member.Power))
	}
	for _, m := range c.Members {
		all.Add(all, wide(m.Power))
	}
	if power.Mul(power, big.NewInt(3)).Cmp(all.Mul(all, big.NewInt(2))) <= 0 {
		return api.ErrQuorum
	}
	return api.OK
}

// modelWhole is all that is wrong with a light block, in the chapter's order.
func modelWhole(r *seal.Registry, name string, u api.LightBlock) (wrong []modelFault) {
	say := func(step string, e api.Errno) {
		if e != api.OK {
			wrong = append(wrong, modelFault{step, e})
		}
	}
	if u.Header.Chain != name {
		say("chain", api.ErrChain)
	}
	say("header", wire.PlainHeader(u.Header))
	say("cert", wire.PlainCert(u.Cert))
	say("council", council.Sound(u.Council))
	if modelDigest(u.Council) != u.Header.Council {
		say("seats", api.ErrSeats)
	}
	if id, _ := wire.BlockId(u.Header); u.Cert.Height != u.Header.Height || u.Cert.Id != id {
		say("of", api.ErrCert)
	}
	say("check", modelCheck(u.Council, r, name, u.Cert))
	return wrong
}

func modelUsable(p api.Params, r *seal.Registry, now uint64) (wrong []modelFault) {
	if _, e := r.Enter(0); e == api.ErrNil {
		wrong = append(wrong, modelFault{"nil", api.ErrNil})
	}
	if now > 1<<50 || p.Trusting > 1<<32 || p.Drift > 1<<32 {
		wrong = append(wrong, modelFault{"arg", api.ErrArg})
	}
	return wrong
}

func modelExpired(p api.Params, t api.LightBlock, now uint64) bool {
	return wide(now).Cmp(plus(t.Header.Time, p.Trusting)) >= 0
}

func modelAhead(p api.Params, u api.LightBlock, now uint64) bool {
	return wide(u.Header.Time).Cmp(plus(now, p.Drift)) > 0
}

// modelTrusts: do those of t's council who stand in u's certificate have more than a third of it?
func modelTrusts(t, u api.LightBlock) bool {
	signed := map[api.Addr]bool{}
	for _, m := range u.Cert.Marks {
		if m.Index >= 0 && m.Index < len(u.Council.Members) {
			signed[u.Council.Members[m.Index].Addr] = true
		}
	}
	power, all := new(big.Int), new(big.Int)
	for _, m := range t.Council.Members {
		all.Add(all, wide(m.Power))
		if signed[m.Addr] {
			power.Add(power, wide(m.Power))
		}
	}
	return power.Mul(power, big.NewInt(3)).Cmp(all) > 0
}

// modelWrong is all that is wrong with a scene in one of the ways, in the chapter's order.
func modelWrong(way string, s scene) []modelFault {
	wrong := modelUsable(s.p, s.r, s.now)
	say := func(is bool, step string, e api.Errno) {
		if is {
			wrong = append(wrong, modelFault{step, e})
		}
	}
	t, u := s.t.Header, s.u.Header
	above := new(big.Int).Sub(wide(u.Height), wide(t.Height))
	isDue := above.Cmp(big.NewInt(1)) == 0
	if way == "Skipping" {
		isDue = above.Cmp(big.NewInt(2)) >= 0
	}
	say(!isDue || t.Height > 1<<40 || t.Time > 1<<50, "height", api.ErrHeight)
	wrong = append(wrong, modelWhole(s.r, s.name, s.u)...)
	say(modelExpired(s.p, s.t, s.now), "old", api.ErrOld)
	say(u.Time <= t.Time, "time", api.ErrTime)
	say(modelAhead(s.p, s.u, s.now), "ahead", api.ErrAhead)
	if way == "Skipping" {
		say(council.Sound(s.t.Council) != api.OK || modelDigest(s.t.Council) != t.Council || !modelTrusts(s.t, s.u), "trust", api.ErrTrust)
		return wrong
	}
	id, e := wire.BlockId(t)
	say(e != api.OK || u.Last != id, "last", api.ErrLast)
	say(u.Council != t.Next, "next", api.ErrSeats)
	return wrong
}

func modelLook(way string, s scene) api.Errno {
	if wrong := modelWrong(way, s); len(wrong) > 0 {
		return wrong[0].e
	}
	return api.OK
}

// model is a client by another hand: what it trusts is a list, in the order in which it came to be trusted.
type model struct {
	p       api.Params
	name    string
	r       *seal.Registry
	clock   uint64
	trusted []api.LightBlock
}

func newModel(p api.Params, name string, r *seal.Registry, first api.LightBlock, now uint64) (*model, api.Errno) {
	wrong := append(modelUsable(p, r, now), modelWhole(r, name, first)...)
	switch {
	case len(wrong) > 0:
		return nil, wrong[0].e
	case modelExpired(p, first, now):
		return nil, api.ErrOld
	case modelAhead(p, first, now):
		return nil, api.ErrAhead
	}
	return &model{p, name, r, now, []api.LightBlock{first}}, api.OK
}

func (m *model) find(height uint64) (api.LightBlock, bool) {
	for _, u := range m.trusted {
		if u.Header.Height == height {
			return u, true
		}
	}
	return api.LightBlock{}, false
}

// update is P16.4, with the pile as the recursion that it is.
func (m *model) update(height, now uint64, fetch func(uint64) (api.LightBlock, api.Errno)) api.Errno {
	if height < 1 || height > 1<<40 || now > 1<<50 {
		return api.ErrArg
	}
	if m.clock < now {
		m.clock = now
	}
	if _, there := m.find(height); there {
		return api.OK
	}
	var t api.LightBlock
	for _, u := range m.trusted {
		if u.Header.Height < height && u.Header.Height > t.Header.Height {
			t = u
		}
	}
	if t.Header.Height == 0 {
		return api.ErrHeight
	}
	n := 0
	come, e := m.reach(t, height, fetch, &n)
	if e != api.OK {
		return e
	}
	m.trusted = append(m.trusted, come...)
	return api.OK
}

// reach is all that come to be t between one that is t and the block of a height, that too.
func (m *model) reach(t api.LightBlock, height uint64, fetch func(uint64) (api.LightBlock, api.Errno), n *int) (come []api.LightBlock, e api.Errno) {
	if *n++; *n > 1<<16 {
		return nil, api.ErrBig
	}
	u, e := fetch(height)
	if e != api.OK {
		return nil, e
	}
	if u.Header.Height != height {
		return nil, api.ErrHeight
	}
	for {
		way := "Skipping"
		if height-t.Header.Height == 1 {
			way = "Adjacent"
		}
		switch e := modelLook(way, scene{m.p, m.name, m.r, t, u, m.clock}); e {
		case api.OK:
			return append(come, u), api.OK
		case api.ErrTrust:
			between, e := m.reach(t, t.Header.Height+(height-t.Header.Height)/2, fetch, n)
			if e != api.OK {
				return nil, e
			}
			come = append(come, between...)
			t = between[len(between)-1]
		default:
			return nil, e
		}
	}
}
