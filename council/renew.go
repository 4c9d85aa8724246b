package council

import (
	"slices"

	"assent/api"
)

// Renew is the council with another list of members.
func Renew(c api.Council, list []api.Member) (api.Council, api.Errno) {
	if e := Sound(c); e != api.OK {
		return api.Council{}, e
	}
	t, e := weigh(list)
	if e != api.OK {
		return api.Council{}, e
	}
	members := slices.Clone(list)
	takeOver(members, c, t)
	drawTogether(members, 2*t)
	centre(members)
	return api.Council{Members: members}, api.OK
}

// takeOver gives each member the priority that it has in c. Who is not there begins far down, so that nobody gains turns by leaving and coming back.
func takeOver(members []api.Member, c api.Council, t uint64) {
	for k, m := range members {
		members[k].Priority = -int64(t + t/8)
		if at := Index(c, m.Addr); at >= 0 {
			members[k].Priority = c.Members[at].Priority
		}
	}
}

// drawTogether divides the priorities where the greatest and the least one are further apart than they may be.
func drawTogether(members []api.Member, most uint64) {
	low, high := members[0].Priority, members[0].Priority
	for _, m := range members {
		low, high = min(low, m.Priority), max(high, m.Priority)
	}
	apart := uint64(high) - uint64(low) // without a sign: it may be above every int64
	if apart <= most {
		return
	}
	divisor := int64((apart-1)/most + 1) // rounded up, without a sum that might wrap
	for k := range members {
		members[k].Priority /= divisor
	}
}

// centre takes the average away from each priority.
func centre(members []api.Member) {
	a := average(members)
	for k := range members {
		members[k].Priority -= a
	}
}

// average is the sum of the priorities divided by the number of members, rounded down. That sum may need more than 64 bits: so each priority is divided on its own, and what is left of them, less than the number of members each, is summed up beside.
func average(members []api.Member) int64 {
	n := int64(len(members))
	var quotients, rests int64
	for _, m := range members {
		quotients += m.Priority / n
		rests += m.Priority % n
	}
	a := quotients + rests/n
	if rests%n < 0 {
		a--
	}
	return a
}
