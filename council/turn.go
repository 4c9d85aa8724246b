package council

import (
	"slices"

	"assent/api"
)

// Turn moves the priorities on by so many turns.
func Turn(c api.Council, turns int) (api.Council, api.Errno) {
	t, e := total(c)
	if e != api.OK {
		return api.Council{}, e
	}
	if turns < 0 || turns > api.MaxTurns {
		return api.Council{}, api.ErrArg
	}
	members := slices.Clone(c.Members)
	for range turns {
		turn(members, t)
	}
	return api.Council{Members: members}, api.OK
}

// Proposer is whose turn it is in a round.
func Proposer(c api.Council, round int) (api.Addr, api.Errno) {
	t, e := total(c)
	if e != api.OK {
		return 0, e
	}
	if round < 0 || round > api.MaxRound {
		return 0, api.ErrArg
	}
	members := slices.Clone(c.Members)
	for range round {
		turn(members, t)
	}
	at := turn(members, t)
	return members[at].Addr, api.OK
}

// turn moves the priorities of the members on by one turn, and answers the place of who is chosen.
func turn(members []api.Member, t uint64) int {
	whole := int64(t)
	bound := reach * whole
	for k, m := range members {
		members[k].Priority = min(m.Priority+int64(m.Power), bound)
	}
	at := foremost(members)
	members[at].Priority = max(members[at].Priority-whole, -bound)
	return at
}

// foremost is the place of the member with the greatest priority, of several the one with the least address.
func foremost(members []api.Member) int {
	comesFirst := func(i, k int) bool {
		a, b := members[i], members[k]
		return a.Priority > b.Priority || a.Priority == b.Priority && a.Addr < b.Addr
	}
	best := 0
	for k := range members {
		if comesFirst(k, best) {
			best = k
		}
	}
	return best
}
