package node

import (
	"assent/api"
	"assent/archive"
	"assent/chain"
	"assent/disk"
	"assent/misdeed"
	"assent/pool"
	"assent/seal"
	"assent/wire"
)

// Open begins a node on an empty disk, or goes on with what a disk holds. The signer may be nil: it looks on.
func Open(g api.Genesis, d *disk.Disk, r *seal.Registry, s *seal.Signer, now uint64) (opened *Node, answer api.Errno) {
	switch {
	case !isDisk(d) || !isRegistry(r) || s != nil && s.Addr() == 0:
		return nil, api.ErrNil
	case now > api.MaxTime:
		return nil, api.ErrArg
	}
	first, e := chain.Begin(g)
	if e != api.OK {
		return nil, e
	}
	a, e := archive.Open(d)
	if e != api.OK {
		return nil, e
	}
	n := &Node{registry: r, signer: s, disk: d, archive: a, misdeeds: misdeed.New(), clock: now}
	n.self = n
	n.pool, _ = pool.New(api.MaxPool)
	defer func() {
		if answer = n.caught(recover(), answer); answer != api.OK {
			opened = nil
		}
	}()
	n.recall(first)
	n.goOn(now)
	return n, api.OK
}

// recall comes to the state behind the archive's last block, from a noted one on, if that can be, else from the first one.
func (n *Node) recall(first api.State) {
	n.state = first
	if noted, e := n.archive.Noted(); e == api.OK && n.isOurs(noted) {
		n.state = noted
	}
	n.trail = newTrail(first, n.state)
	for h := n.height(); h <= n.archive.Head(); h++ {
		b, c, e := n.archive.Load(h)
		must(e)
		if chain.CheckCert(n.state.Council, n.registry, n.state.Chain, c) != api.OK {
			panic(refused{api.ErrSpoilt})
		}
		n.stepOn(n.behind(b))
	}
}

// isOurs: is a noted state one of the chain that the node is at the beginning of, behind the block that the archive has?
func (n *Node) isOurs(noted api.State) bool {
	if noted.Height == 0 || noted.Chain != n.state.Chain || noted.Params != n.state.Params {
		return false
	}
	_, c, e := n.archive.Load(noted.Height)
	return e == api.OK && c.Id == noted.Last // an archive's certificate has its block's id
}

// goOn comes to the height behind the state, with what its log has kept. The log is synced ahead of being played: what was read, and signed for, could else go with the next crash.
func (n *Node) goOn(now uint64) {
	n.sending = later(now, n.state.Params.Resend)
	forms := n.enter(now)
	if n.log != nil {
		must(n.log.Sync())
	}
	records := make([]record, len(forms))
	for k, form := range forms {
		records[k].in, records[k].refusal = wire.DecodeInput(form)
		n.clock = max(n.clock, records[k].in.Now) // 0, if it does not decode
	}
	n.play(records)
}

// record is what a record of the log says, or why it can't be read.
type record struct {
	in      api.Input
	refusal api.Errno
}

// play has the engine take what stands in the log, till a height is decided.
func (n *Node) play(records []record) {
	w := &work{Node: n, begun: n.stage, left: records}
	for len(w.left) > 0 && !w.isDecided() {
		next := w.left[0]
		w.left = w.left[1:]
		if next.refusal != api.OK {
			panic(refused{api.ErrSpoilt})
		}
		if next.in.Kind == api.InTimeout {
			w.waits.drop(next.in.Step, next.in.Round)
		}
		w.take(next.in)
		w.workOff()
	}
}

// isDisk: did disk make it? No file is without a name, so this reads nothing.
func isDisk(d *disk.Disk) bool {
	_, e := d.Read("")
	return e != api.ErrNil
}

// isRegistry: did seal make it? Nobody can be entered as 0, so this enters nobody.
func isRegistry(r *seal.Registry) bool {
	_, e := r.Enter(0)
	return e != api.ErrNil
}
