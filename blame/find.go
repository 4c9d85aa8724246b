package blame

import (
	"bytes"
	"cmp"
	"slices"

	"assent/api"
)

// compare puts that guilt first that is told rather. Times are not asked for: of votes that are alike but for them a record has one.
func compare(g, h api.Guilt) int {
	return cmp.Or(
		cmp.Compare(g.Addr, h.Addr),
		cmp.Compare(g.Kind, h.Kind),
		cmp.Compare(g.A.Round, h.A.Round),
		cmp.Compare(g.B.Round, h.B.Round),
		cmp.Compare(g.A.Kind, h.A.Kind),
		bytes.Compare(g.A.Id[:], h.A.Id[:]),
		bytes.Compare(g.B.Id[:], h.B.Id[:]),
	)
}

// twice tells of each member, kind and round the two least of its votes that contradict each other.
func (x record) twice() (guilts []api.Guilt) {
	for _, b := range x {
		for _, ids := range b {
			for from, votes := range bySender(ids) {
				if len(votes) > 1 {
					guilts = append(guilts, api.Guilt{Addr: from, Kind: api.GuiltTwice, A: votes[0], B: votes[1]})
				}
			}
		}
	}
	return guilts
}

// bySender are each member's votes of one round, by rising id.
func bySender(ids map[api.Hash][]api.Vote) map[api.Addr][]api.Vote {
	sent := map[api.Addr][]api.Vote{}
	for _, votes := range ids {
		for _, v := range votes {
			sent[v.From] = append(sent[v.From], v)
		}
	}
	for _, votes := range sent {
		slices.SortFunc(votes, func(v, w api.Vote) int { return bytes.Compare(v.Id[:], w.Id[:]) })
	}
	return sent
}

// forgotten tells of each prevote that went over to another block without a reason the least round's precommit that it has forgotten. (Of a member who has voted twice that may be any of a round's: such a member is told for that.)
func (x record) forgotten(latest func(id api.Hash, below int) int) (guilts []api.Guilt) {
	bound := x[api.Precommit].locks()
	for round, ids := range x[api.Prevote] {
		for id, votes := range ids {
			if !isBlock(id) {
				continue
			}
			free := latest(id, round)
			for _, b := range votes {
				if a, there := bound[b.From].first(free, id); there && a.Round < round {
					guilts = append(guilts, api.Guilt{Addr: b.From, Kind: api.GuiltForget, A: a, B: b})
				}
			}
		}
	}
	return guilts
}

// locks are one member's precommits for blocks, by rising round.
type locks struct {
	votes []api.Vote
	other []int // at each place that of the next one for another block, so that a long row for one block is passed by in one step
}

func (b ballots) locks() map[api.Addr]locks {
	sent := map[api.Addr][]api.Vote{}
	for _, ids := range b {
		for id, votes := range ids {
			for _, v := range votes {
				if isBlock(id) {
					sent[v.From] = append(sent[v.From], v)
				}
			}
		}
	}
	bound := map[api.Addr]locks{}
	for from, votes := range sent {
		bound[from] = ordered(votes)
	}
	return bound
}

func ordered(votes []api.Vote) locks {
	slices.SortFunc(votes, func(v, w api.Vote) int { return cmp.Compare(v.Round, w.Round) })
	other := make([]int, len(votes))
	for k := len(votes) - 1; k >= 0; k-- {
		other[k] = k + 1
		if k+1 < len(votes) && votes[k+1].Id == votes[k].Id {
			other[k] = other[k+1]
		}
	}
	return locks{votes, other}
}

// first is the first one above a round that is for another block than that.
func (l locks) first(above int, block api.Hash) (api.Vote, bool) {
	k, _ := slices.BinarySearchFunc(l.votes, above+1, func(v api.Vote, round int) int { return cmp.Compare(v.Round, round) })
	if k < len(l.votes) && l.votes[k].Id == block {
		k = l.other[k]
	}
	if k == len(l.votes) {
		return api.Vote{}, false
	}
	return l.votes[k], true
}
