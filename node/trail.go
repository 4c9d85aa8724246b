package node

import (
	"assent/api"
	"assent/chain"
)

// trail is which councils have decided, however long ago. A state tells the last ones alone; behind a noted one those ahead of them are found when they are asked for, by playing the blocks from the beginning.
type trail struct {
	councils []api.Council // of the heights from 1 on; without members where it is not known
	played   api.State     // as far as the blocks have been played for it
}

// newTrail has what is known behind a state, of a chain with that first one.
func newTrail(first, st api.State) trail {
	t := trail{councils: make([]api.Council, st.Height), played: first}
	for _, p := range st.Past {
		t.know(p.Height, p.Council)
	}
	t.know(1, first.Council)
	return t
}

func (t *trail) know(height uint64, c api.Council) {
	if height >= 1 && height <= uint64(len(t.councils)) {
		t.councils[height-1] = c
	}
}

// councilOf is the council of a height that was decided.
func (n *Node) councilOf(height uint64) (api.Council, api.Errno) {
	for len(n.trail.councils[height-1].Members) == 0 {
		if e := n.playOn(); e != api.OK {
			return api.Council{}, e
		}
	}
	return copyCouncil(n.trail.councils[height-1]), api.OK
}

// playOn plays a block more from the beginning, for the council of the height behind it.
func (n *Node) playOn() api.Errno {
	t := &n.trail
	b, _, e := n.archive.Load(t.played.Height + 1)
	if e != api.OK {
		return e
	}
	next, e := chain.Apply(t.played, n.registry, b)
	if e != api.OK {
		return api.ErrSpoilt
	}
	t.played = next
	t.know(next.Height+1, next.Council)
	return api.OK
}
