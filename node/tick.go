package node

import "assent/api"

// Tick sets its clock on.
func (n *Node) Tick(now uint64) (answer api.Errno) {
	if e := n.ready(); e != api.OK {
		return e
	}
	if now > api.MaxTime {
		return api.ErrArg
	}
	defer func() { answer = n.caught(recover(), answer) }()
	n.clock = max(n.clock, now)
	present := n.stage
	due := n.waits.takeDue(n.clock) // ahead of the beginning: what is set from here on waits for the next Tick
	n.begin()
	for _, x := range due {
		if n.stage != present {
			break // they were of a height that is decided
		}
		n.handIn(api.Input{Kind: api.InTimeout, Now: n.clock, Step: x.step, Round: x.round})
	}
	n.sendAgain()
	return api.OK
}

// begin begins the height, if it is time.
func (n *Node) begin() {
	if n.engine != nil && n.engine.View().Step == api.StepNew && n.start <= n.clock {
		n.handIn(api.Input{Kind: api.InStart, Now: n.clock})
	}
}

// sendAgain tells the others where it stands, and all that it holds: anything of it may have been lost.
func (n *Node) sendAgain() {
	if n.engine == nil || n.sending > n.clock {
		return
	}
	n.sending = later(n.clock, n.state.Params.Resend)
	n.broadcast(api.Msg{Kind: api.MsgStatus, Height: n.height(), Round: n.engine.View().Round})
	for _, m := range n.engine.Held() {
		if m.Kind != api.MsgProposal || n.sealProposal(&m) {
			n.broadcast(m)
		}
	}
}
