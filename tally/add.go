package tally

import (
	"assent/api"
	"assent/council"
)

// Add takes a vote whose seal was looked at.
func (t *Tally) Add(v api.Vote) (api.Added, api.Errno) {
	if !t.made() {
		return api.Added{}, api.ErrNil
	}
	if !isKind(v.Kind) || v.Round < 0 || v.Round > api.MaxRound {
		return api.Added{}, api.ErrArg
	}
	if v.Height != t.height {
		return api.Added{}, api.ErrOther
	}
	member := council.Index(t.council, v.From)
	if member < 0 {
		return api.Added{}, api.ErrMember
	}
	at := place{v.Kind, v.Round, member}
	switch {
	case t.below(v.Round):
		return api.Added{Old: true}, api.OK
	case t.above(v.Round):
		return t.putAside(at, v), api.OK
	}
	return t.put(at, v), api.OK
}

// Enter makes a round the present one, and tells the votes that come into the window by that.
func (t *Tally) Enter(round int) ([]api.Added, api.Errno) {
	if !t.made() {
		return nil, api.ErrNil
	}
	if round < t.round || round > api.MaxRound {
		return nil, api.ErrArg
	}
	aside := t.find(func(at place) bool { return t.above(at.round) })
	t.round = round
	for at := range t.held {
		if t.below(at.round) {
			delete(t.held, at)
		}
	}
	var entered []api.Added
	for _, at := range aside {
		if !t.below(at.round) && !t.above(at.round) {
			entered = append(entered, api.Added{New: true})
		}
	}
	return entered, api.OK
}

// put holds a vote, if nothing is held at its place.
func (t *Tally) put(at place, v api.Vote) api.Added {
	first, found := t.held[at]
	switch {
	case !found:
		t.held[at] = v
		return api.Added{New: true}
	case first.Id != v.Id:
		return api.Added{Two: true, Both: pair(first, v)}
	}
	return api.Added{}
}

// putAside holds a vote of a round above the window, if its member has no later one of its kind there; an earlier one makes room for it.
func (t *Tally) putAside(at place, v api.Vote) api.Added {
	last := t.latest(at.kind)[at.member]
	if last > at.round {
		return api.Added{Far: true}
	}
	if t.above(last) && last < at.round {
		delete(t.held, place{at.kind, last, at.member})
	}
	added := t.put(at, v)
	added.Far = true
	return added
}
