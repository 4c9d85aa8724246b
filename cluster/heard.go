package cluster

import (
	"strconv"
	"strings"

	"assent/api"
	"assent/blame"
	"assent/wal"
	"assent/wire"
)

const (
	logMark    = "wal-" // a log's name begins so
	digitCount = 16     // and so many digits follow
)

// Heard are the votes that stand in a node's log of a height, and behind them its own.
func (c *Cluster) Heard(node int, height uint64) ([]api.Vote, api.Errno) {
	m, e := c.find(node)
	if e != api.OK {
		return nil, e
	}
	if height == 0 || height > api.MaxHeight {
		return nil, api.ErrArg
	}
	var votes []api.Vote
	seen := map[api.Vote]struct{}{}
	note := func(v api.Vote) {
		if _, told := seen[v]; !told {
			seen[v] = struct{}{}
			votes = append(votes, v)
		}
	}
	m.showLog(height, note)
	c.showOwn(m, height, note)
	return votes, api.OK
}

// showLog shows the votes of a height's log. It is read without being opened: opening may change what stands on the disk.
func (m *machine) showLog(height uint64, show func(api.Vote)) {
	b, _ := m.disk.Read(logName(height))
	records, _ := wal.Scan(b)
	for _, rec := range records {
		in, _ := wire.DecodeInput(rec)
		for _, v := range in.Votes {
			show(v)
		}
	}
}

// showOwn shows the votes of a height that a node has signed. To sign them again gives their seals, and changes nothing.
func (c *Cluster) showOwn(m *machine, height uint64, show func(api.Vote)) {
	for _, msg := range c.registry.Signed(m.signer.Addr()) {
		name, v, e := wire.ReadVoteBytes(msg)
		if e != api.OK || name != c.genesis.Chain || v.Height != height {
			continue
		}
		if v.Seal, e = m.signer.Sign(msg); e == api.OK {
			show(v)
		}
	}
}

// Blame names who must have lied, if two honest nodes have decided unlike blocks; ErrNone, if none have.
func (c *Cluster) Blame() ([]api.Guilt, api.Errno) {
	if !c.made() {
		return nil, api.ErrNil
	}
	for height := uint64(1); ; height++ {
		certs, tellers := c.certs(height)
		if tellers < 2 {
			return nil, api.ErrNone
		}
		if one, other, there := findFork(certs); there {
			return c.judge(height, one, certs[one], certs[other])
		}
	}
}

// certs are the certificates by which the honest nodes have decided a height, by place, and how many nodes tell one: no node tells a height and not the one ahead. Of those that tell none it is the zero one.
func (c *Cluster) certs(height uint64) ([]api.Cert, int) {
	certs, tellers := make([]api.Cert, len(c.machines)), 0
	for k, m := range c.machines {
		var e api.Errno
		if _, certs[k], e = m.Block(height); e == api.OK {
			tellers++
		}
	}
	return certs, tellers
}

// findFork is the first two places, the lesser first, of which unlike blocks are told. A certificate has its block's id.
func findFork(certs []api.Cert) (int, int, bool) {
	for other, y := range certs {
		for one, x := range certs[:other] {
			if isBlock(x.Id) && isBlock(y.Id) && x.Id != y.Id {
				return one, other, true
			}
		}
	}
	return 0, 0, false
}

// judge has two certificates of a height looked over by its council, as a node tells it, and by all that honest nodes have heard there.
func (c *Cluster) judge(height uint64, teller int, x, y api.Cert) ([]api.Guilt, api.Errno) {
	told, e := c.machines[teller].Answer(height)
	if e != api.OK {
		return nil, e
	}
	var votes []api.Vote
	for k := range c.machines {
		heard, _ := c.Heard(k, height)
		votes = append(votes, heard...)
	}
	return blame.Blame(c.genesis.Chain, told.Council, c.registry, x, y, votes)
}

func isBlock(id api.Hash) bool { return id != api.Hash{} }

func logName(height uint64) string {
	digits := strconv.FormatUint(height, 16)
	return logMark + strings.Repeat("0", digitCount-len(digits)) + digits
}
