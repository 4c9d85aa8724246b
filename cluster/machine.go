package cluster

import (
	"assent/api"
	"assent/disk"
	"assent/node"
	"assent/seal"
)

const (
	diskSize  = 1 << 24 // bytes of a machine's disk
	maxRounds = 65536   // of one call
)

// machine is what an honest node stands on, and the node, which is nil where its disk can't be opened: a nil node answers what is due then.
type machine struct {
	*node.Node
	disk   *disk.Disk
	signer *seal.Signer
	clock  uint64 // goes on though the node is dead
}

// newMachine is one with an empty disk, that is not opened yet.
func newMachine(s *seal.Signer, clock uint64) *machine {
	d, _ := disk.New(diskSize)
	return &machine{disk: d, signer: s, clock: clock}
}

// Tick sets a node's clock on by so much.
func (c *Cluster) Tick(node int, by uint64) api.Errno {
	if _, e := c.find(node); e != api.OK {
		return e
	}
	c.setOn(node, by)
	return api.OK
}

// Rounds lets so many rounds of good behaviour come: every message is handed over, every clock goes on.
func (c *Cluster) Rounds(n int) api.Errno {
	switch {
	case !c.made():
		return api.ErrNil
	case n < 0 || n > maxRounds:
		return api.ErrArg
	}
	for range n {
		for _, l := range c.takeAll() {
			c.handOver(l)
		}
		for k := range c.machines {
			c.setOn(k, 1)
		}
	}
	return api.OK
}

// Arm has a trouble befall a node's disk.
func (c *Cluster) Arm(node int, t api.Trouble) api.Errno {
	m, e := c.find(node)
	if e != api.OK {
		return e
	}
	return m.disk.Arm(t)
}

// Restart crashes a node, and opens it anew on what its disk has left.
func (c *Cluster) Restart(node int, keep []int, junk byte) api.Errno {
	m, e := c.find(node)
	if e != api.OK {
		return e
	}
	// Neither is refused: a disk crashes but once here, and what it leaves fits one of its size.
	left, _ := m.disk.Crash(keep, junk)
	m.disk, _ = disk.Mount(left, diskSize)
	return c.open(node)
}

// State, View, Block, Dead are a node's.
func (c *Cluster) State(node int) (api.State, api.Errno) { return ask(c, node, (*machine).State) }

func (c *Cluster) View(node int) (api.View, api.Errno) { return ask(c, node, (*machine).View) }

func (c *Cluster) Block(node int, height uint64) (api.Block, api.Cert, api.Errno) {
	m, e := c.find(node)
	if e != api.OK {
		return api.Block{}, api.Cert{}, e
	}
	return m.Block(height)
}

func (c *Cluster) Dead(node int) bool {
	m, e := c.find(node)
	return e == api.OK && (m.Node == nil || m.Dead())
}

// Clock is a node's clock.
func (c *Cluster) Clock(node int) (uint64, api.Errno) {
	return ask(c, node, func(m *machine) uint64 { return m.clock })
}

// Pool is what waits at a node.
func (c *Cluster) Pool(node int) ([]api.Tx, api.Errno) { return ask(c, node, (*machine).Pool) }

// Light is what a node shows a light client.
func (c *Cluster) Light(node int, height uint64) (api.LightBlock, api.Errno) {
	m, e := c.find(node)
	if e != api.OK {
		return api.LightBlock{}, e
	}
	return m.Answer(height)
}

// ask is what an honest node tells.
func ask[T any](c *Cluster, node int, how func(*machine) T) (told T, e api.Errno) {
	m, e := c.find(node)
	if e == api.OK {
		told = how(m)
	}
	return told, e
}

// open opens the node of a machine, in the place of the one that was there.
func (c *Cluster) open(at int) (e api.Errno) {
	m := c.machines[at]
	m.Node, e = node.Open(c.genesis, m.disk, c.registry, m.signer, m.clock)
	c.collect(at)
	return e
}

// setOn sets a machine's clock on, at most to the end of all clocks.
func (c *Cluster) setOn(at int, by uint64) {
	m := c.machines[at]
	m.clock += min(by, api.MaxTime-m.clock)
	m.Tick(m.clock)
	c.collect(at)
}
