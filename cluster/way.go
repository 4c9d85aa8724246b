package cluster

import (
	"slices"

	"assent/api"
)

// letter is a message that is under way, from a place to an honest node's. Several may share their bytes, which are never written over.
type letter struct {
	from, to int
	form     []byte
}

// Pending is how many messages are under way.
func (c *Cluster) Pending() int {
	if !c.made() {
		return 0
	}
	return len(c.way)
}

// Peek is a message that is under way: from whom, to whom, its bytes.
func (c *Cluster) Peek(at int) (int, int, []byte, api.Errno) {
	if e := c.underWay(at); e != api.OK {
		return 0, 0, nil, e
	}
	l := c.way[at]
	return l.from, l.to, slices.Clone(l.form), api.OK
}

// Deliver hands a message that is under way over; it stays under way, if keep says so.
func (c *Cluster) Deliver(at int, keep bool) api.Errno {
	if e := c.underWay(at); e != api.OK {
		return e
	}
	l := c.way[at]
	if !keep {
		c.takeOff(at)
	}
	c.handOver(l)
	return api.OK
}

// Drop loses one.
func (c *Cluster) Drop(at int) api.Errno {
	if e := c.underWay(at); e != api.OK {
		return e
	}
	c.takeOff(at)
	return api.OK
}

// underWay: is there a message at that place?
func (c *Cluster) underWay(at int) api.Errno {
	switch {
	case !c.made():
		return api.ErrNil
	case at < 0 || at >= len(c.way):
		return api.ErrArg
	}
	return api.OK
}

func (c *Cluster) takeOff(at int) { c.way = slices.Delete(c.way, at, at+1) }

// takeAll takes off all that is under way, and tells it.
func (c *Cluster) takeAll() []letter {
	way := c.way
	c.way = nil
	return way
}

// handOver gives a message to its node. Whatever that says of it, nobody hears.
func (c *Cluster) handOver(l letter) {
	c.machines[l.to].Deliver(l.from, l.form)
	c.collect(l.to)
}

// collect puts under way what a node wants sent.
func (c *Cluster) collect(from int) {
	for _, o := range c.machines[from].Out() {
		c.send(from, o.To, o.Bytes)
	}
}

// send puts a message under way to an honest node (-1: to each), but to nobody from himself. What there is no room for is lost.
func (c *Cluster) send(from, to int, form []byte) {
	for k := range c.machines {
		if k != from && (to == k || to == -1) && len(c.way) < api.MaxPending {
			c.way = append(c.way, letter{from, k, form})
		}
	}
}
