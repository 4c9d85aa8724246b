package blame

import (
	"slices"

	"assent/api"
	"assent/council"
)

// record holds the votes of a height that count, by kind.
type record map[int]ballots

// ballots are votes of one kind, by round, then by id: of each member one, of several that are alike but for their times the one with the least.
type ballots map[int]map[api.Hash][]api.Vote

// record keeps of the votes in some lists those of a height that count.
func (j court) record(height uint64, lists ...[]api.Vote) record {
	counting := record{api.Prevote: {}, api.Precommit: {}}
	for _, votes := range lists {
		for _, v := range votes {
			if v.Height == height && j.isMember(v.From) && j.isSealed(v) {
				counting[v.Kind].note(v)
			}
		}
	}
	return counting
}

func (b ballots) note(v api.Vote) {
	if b[v.Round] == nil {
		b[v.Round] = map[api.Hash][]api.Vote{}
	}
	alike := b[v.Round][v.Id]
	k := slices.IndexFunc(alike, func(o api.Vote) bool { return o.From == v.From })
	switch {
	case k < 0:
		b[v.Round][v.Id] = append(alike, v)
	case v.Time < alike[k].Time:
		alike[k] = v
	}
}

// polkas answers a function that tells the latest round below another in which an id has had a polka; -1, if there is none. It goes through the votes when it is first asked, and remembers what it has found: there may be as many ids as votes, and each is asked for in many rounds.
func (j court) polkas(counting record) func(id api.Hash, below int) int {
	var found map[api.Hash][]int
	return func(id api.Hash, below int) int {
		if found == nil {
			found = j.quorums(counting[api.Prevote])
		}
		rounds := found[id]
		k, _ := slices.BinarySearch(rounds, below)
		if k == 0 {
			return -1
		}
		return rounds[k-1]
	}
}

// quorums are the rounds, rising, in which each id has a quorum.
func (j court) quorums(b ballots) map[api.Hash][]int {
	least := council.Quorum(j.c)
	found := map[api.Hash][]int{}
	for round, ids := range b {
		for id, votes := range ids {
			if j.power(votes) >= least {
				found[id] = append(found[id], round)
			}
		}
	}
	for _, rounds := range found {
		slices.Sort(rounds)
	}
	return found
}

// power is what the members of votes have together. As no member has two of them, it is no more than the council's total, and can't wrap.
func (j court) power(votes []api.Vote) (sum uint64) {
	for _, v := range votes {
		sum += j.c.Members[council.Index(j.c, v.From)].Power
	}
	return sum
}
