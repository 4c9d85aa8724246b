package tally

import (
	"cmp"
	"slices"

	"assent/api"
	"assent/council"
)

// Power is what has voted so in a round.
func (t *Tally) Power(kind, round int, id api.Hash) uint64 {
	_, power := t.count(kind, round, func(v api.Vote) bool { return v.Id == id })
	return power
}

// Any is what has voted in a round at all.
func (t *Tally) Any(kind, round int) uint64 {
	_, power := t.count(kind, round, everyone)
	return power
}

// Votes are those of a round, by rising member.
func (t *Tally) Votes(kind, round int) []api.Vote {
	places, _ := t.count(kind, round, everyone)
	return t.votesAt(places)
}

// Quorum is the id that has a quorum in a round; false: there is none.
func (t *Tally) Quorum(kind, round int) (api.Hash, bool) {
	if !t.made() {
		return api.Hash{}, false
	}
	places, _ := t.count(kind, round, everyone)
	quorum := council.Quorum(t.council)
	powers := map[api.Hash]uint64{}
	for _, at := range places {
		id := t.held[at].Id
		powers[id] += t.powerOf(at.member)
		if powers[id] >= quorum {
			return id, true
		}
	}
	return api.Hash{}, false
}

// Cert is the certificate of a round's precommits for an id.
func (t *Tally) Cert(round int, id api.Hash) (api.Cert, api.Errno) {
	if !t.made() {
		return api.Cert{}, api.ErrNil
	}
	if id == (api.Hash{}) {
		return api.Cert{}, api.ErrArg
	}
	places, power := t.count(api.Precommit, round, func(v api.Vote) bool { return v.Id == id })
	if power < council.Quorum(t.council) {
		return api.Cert{}, api.ErrQuorum
	}
	marks := make([]api.Mark, len(places))
	for k, at := range places {
		v := t.held[at]
		marks[k] = api.Mark{Index: at.member, Time: v.Time, Seal: v.Seal}
	}
	return api.Cert{Height: t.height, Round: round, Id: id, Marks: marks}, api.OK
}

// Held are all that it holds, those aside too.
func (t *Tally) Held() []api.Vote {
	if !t.made() {
		return nil
	}
	return t.votesAt(t.find(func(place) bool { return true }))
}

// Skip is the greatest round above the present one at or above which more than a third has voted; false: there is none.
func (t *Tally) Skip() (int, bool) {
	if !t.made() {
		return 0, false
	}
	third := council.Third(t.council)
	var power uint64
	for _, h := range t.heard() {
		if h.round <= t.round {
			break
		}
		power += t.powerOf(h.member)
		if power >= third {
			return h.round, true
		}
	}
	return 0, false
}

// hearing is the greatest round in which a member was heard.
type hearing struct{ round, member int }

// heard has each member once, who was heard in the greatest round first; who stands first of those of one round makes no difference to Skip.
func (t *Tally) heard() []hearing {
	list := make([]hearing, len(t.council.Members))
	for _, kind := range kinds {
		for member, round := range t.latest(kind) {
			list[member] = hearing{max(list[member].round, round), member}
		}
	}
	slices.SortFunc(list, func(x, y hearing) int { return cmp.Compare(y.round, x.round) })
	return list
}

// count is where the votes that are meant are held in the window, of a kind and round, by rising member, and their power. What is held aside doesn't count.
func (t *Tally) count(kind, round int, meant func(api.Vote) bool) ([]place, uint64) {
	if !t.made() || t.above(round) {
		return nil, 0
	}
	places := t.find(func(at place) bool { return at.kind == kind && at.round == round && meant(t.held[at]) })
	var power uint64 // of members each once, so at most the total
	for _, at := range places {
		power += t.powerOf(at.member)
	}
	return places, power
}

// find is where the votes at the places that are meant are held, in the order of Held.
func (t *Tally) find(meant func(place) bool) []place {
	var places []place
	for at := range t.held {
		if meant(at) {
			places = append(places, at)
		}
	}
	slices.SortFunc(places, byRound)
	return places
}

func (t *Tally) votesAt(places []place) []api.Vote {
	votes := make([]api.Vote, len(places))
	for k, at := range places {
		votes[k] = t.held[at]
	}
	return votes
}

func (t *Tally) powerOf(member int) uint64 { return t.council.Members[member].Power }

func everyone(api.Vote) bool { return true }
