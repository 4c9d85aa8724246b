package misdeed

import (
	"cmp"
	"maps"
	"slices"

	"assent/api"
	"assent/seal"
)

// Pool holds evidence that waits for a block. It is made by New.
type Pool struct {
	self    *Pool                        // itself, if New made it
	waiting map[api.Offence]api.Evidence // of each pair the one that came first
}

// New holds none.
func New() *Pool {
	p := &Pool{waiting: map[api.Offence]api.Evidence{}}
	p.self = p
	return p
}

// Add takes evidence that Verify lets.
func (p *Pool) Add(st api.State, r *seal.Registry, e api.Evidence) api.Errno {
	if !p.made() {
		return api.ErrNil
	}
	if refusal := Verify(st, r, e); refusal != api.OK {
		return refusal
	}
	if _, known := p.waiting[pairOf(e)]; known {
		return api.ErrKnown
	}
	if len(p.waiting) >= api.MaxPool {
		return api.ErrBig
	}
	p.waiting[pairOf(e)] = e
	return api.OK
}

// Pick is what a block behind the state is to hold.
func (p *Pool) Pick(st api.State, r *seal.Registry) []api.Evidence {
	if !p.made() || !isRegistry(r) {
		return nil
	}
	var picked []api.Evidence
	for _, pair := range slices.SortedFunc(maps.Keys(p.waiting), byHeight) {
		if len(picked) == api.MaxEvidence {
			break
		}
		if e := p.waiting[pair]; Verify(st, r, e) == api.OK {
			picked = append(picked, e)
		}
	}
	return picked
}

// Settle notes what a block has held, and drops what is too old behind the state.
func (p *Pool) Settle(st api.State, done []api.Evidence) {
	if !p.made() {
		return
	}
	for pair := range p.waiting {
		if _, found := councilOf(st, pair.Height); !found {
			delete(p.waiting, pair)
		}
	}
	for _, pair := range st.Punished {
		delete(p.waiting, pair)
	}
	for _, e := range done {
		delete(p.waiting, pairOf(e))
	}
}

// Len is how many wait.
func (p *Pool) Len() int {
	if !p.made() {
		return 0
	}
	return len(p.waiting)
}

func (p *Pool) made() bool { return p != nil && p.self == p }

func byHeight(x, y api.Offence) int {
	return cmp.Or(cmp.Compare(x.Height, y.Height), cmp.Compare(x.Addr, y.Addr))
}
