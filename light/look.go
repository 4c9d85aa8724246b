package light

import (
	"assent/api"
	"assent/chain"
	"assent/council"
	"assent/seal"
	"assent/wire"
)

// look is what both ways of looking at a block share: by what it is looked at, and when.
type look struct {
	params   api.Params
	chain    string
	registry *seal.Registry
	now      uint64
}

// adjacent looks at the block next to a trusted one, whose header names its council.
type adjacent struct{ look }

// skipping looks at a block further on, which enough of the trusted council must have signed.
type skipping struct{ look }

func (a adjacent) refusal(t, u api.LightBlock) api.Errno {
	if e := a.shared(t, u, u.Header.Height == t.Header.Height+1); e != api.OK {
		return e
	}
	id, e := wire.BlockId(t.Header)
	switch {
	case e != api.OK || u.Header.Last != id:
		return api.ErrLast
	case u.Header.Council != t.Header.Next:
		return api.ErrSeats
	}
	return api.OK
}

func (s skipping) refusal(t, u api.LightBlock) api.Errno {
	if e := s.shared(t, u, u.Header.Height >= t.Header.Height+2); e != api.OK {
		return e
	}
	seats, e := council.Digest(t.Council) // refuses a council that is not sound
	if e != api.OK || seats != t.Header.Council || trustedPower(t, u) < council.Third(t.Council) {
		return api.ErrTrust
	}
	return api.OK
}

// trustedPower is what the members of t's sound council whose precommits stand in the certificate of u, which is whole, have together there.
func trustedPower(t, u api.LightBlock) (sum uint64) {
	for _, m := range u.Cert.Marks {
		if k := council.Index(t.Council, u.Council.Members[m.Index].Addr); k >= 0 {
			sum += t.Council.Members[k].Power
		}
	}
	return sum
}

// shared is what both ways look at. Whether u's height is due may have been reckoned wrapping round: a t whose height is above the limit is refused for that here.
func (l look) shared(t, u api.LightBlock, isDue bool) api.Errno {
	if e := l.usable(); e != api.OK {
		return e
	}
	if !isDue || t.Header.Height > api.MaxHeight || t.Header.Time > api.MaxTime {
		return api.ErrHeight
	}
	if e := l.whole(u); e != api.OK {
		return e
	}
	switch {
	case l.isExpired(t):
		return api.ErrOld
	case u.Header.Time <= t.Header.Time:
		return api.ErrTime
	case l.isAhead(u):
		return api.ErrAhead
	}
	return api.OK
}

// usable is what is wrong with that by which it looks. With these numbers no time wraps.
func (l look) usable() api.Errno {
	// Nobody can be entered as 0, so this enters nobody: it asks whether there is a registry.
	if _, e := l.registry.Enter(0); e == api.ErrNil {
		return e
	}
	if l.now > api.MaxTime || l.params.Trusting > api.MaxTicks || l.params.Drift > api.MaxTicks {
		return api.ErrArg
	}
	return api.OK
}

// whole is what is wrong with a light block by itself.
func (l look) whole(u api.LightBlock) api.Errno {
	if u.Header.Chain != l.chain {
		return api.ErrChain
	}
	id, e := wire.BlockId(u.Header) // refuses a header that is not plain
	if e != api.OK {
		return e
	}
	if e := wire.PlainCert(u.Cert); e != api.OK {
		return e
	}
	seats, e := council.Digest(u.Council) // refuses a council that is not sound
	switch {
	case e != api.OK:
		return e
	case seats != u.Header.Council:
		return api.ErrSeats
	case u.Cert.Height != u.Header.Height || u.Cert.Id != id:
		return api.ErrCert
	}
	return chain.CheckCert(u.Council, l.registry, l.chain, u.Cert)
}

func (l look) isExpired(t api.LightBlock) bool { return l.now >= t.Header.Time+l.params.Trusting }

func (l look) isAhead(u api.LightBlock) bool { return u.Header.Time > l.now+l.params.Drift }
