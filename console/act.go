package console

import (
	"assent/api"
	"assent/chain"
	"assent/ledger"
	"assent/wire"
)

func (p *play) deliver(w *words, keep bool) string {
	at := w.count()
	return done(p.cluster().Deliver(at, keep))
}

func (p *play) drop(w *words) string {
	at := w.count()
	return done(p.cluster().Drop(at))
}

func (p *play) tick(w *words) string {
	node, by := w.count(), w.number()
	return done(p.cluster().Tick(node, by))
}

func (p *play) rounds(w *words) string {
	n := w.count()
	return done(p.cluster().Rounds(n))
}

func (p *play) fail(w *words) string {
	node, at := w.count(), w.count()
	t := w.trouble(at)
	return done(p.cluster().Arm(node, t))
}

func (p *play) crash(w *words) string {
	node, junk := w.count(), w.junk()
	var keep []int
	for w.more() {
		keep = append(keep, w.count())
	}
	return done(p.cluster().Restart(node, keep, junk))
}

func (p *play) pay(w *words) string {
	node := w.count()
	return p.submit(node, api.Tx{Kind: api.TxPay, From: w.addr(), To: w.addr(), Amount: w.number(), Fee: w.number()})
}

// stake bonds, or lets go.
func (p *play) stake(w *words, kind int) string {
	node := w.count()
	return p.submit(node, api.Tx{Kind: kind, From: w.addr(), Amount: w.number(), Fee: w.number()})
}

func (p *play) free(w *words) string {
	node := w.count()
	return p.submit(node, api.Tx{Kind: api.TxFree, From: w.addr(), Fee: w.number()})
}

// submit hands a node a transaction with the nonce that is next for it there.
func (p *play) submit(node int, x api.Tx) string {
	x.Nonce = p.nextNonce(node, x.From)
	return done(p.cluster().Submit(node, x))
}

// nextNonce is behind all that a node's ledger and its pool have of an account.
func (p *play) nextNonce(node int, from api.Addr) uint64 {
	st, e := p.cluster().State(node)
	must(e)
	waiting, e := p.cluster().Pool(node)
	must(e)
	owner, _ := ledger.Find(st.Ledger, from) // of nobody the zero account
	next := owner.Nonce
	for _, x := range waiting {
		if x.From == from {
			next++
		}
	}
	return next
}

func (p *play) vote(w *words) string {
	liar, to := w.count(), w.to()
	v := api.Vote{Kind: w.kind(), Height: w.number(), Round: w.count(), From: p.addrAt(liar)}
	id := w.id()
	v.Time = w.number()
	c := p.cluster()
	v.Id = id(c)
	return done(c.Lie(liar, to, api.Msg{Kind: api.MsgVote, Votes: []api.Vote{v}}))
}

func (p *play) propose(w *words) string {
	liar, to, node, round := w.count(), w.to(), w.count(), w.count()
	by := p.addrAt(liar)
	c := p.cluster()
	st, e := c.State(node)
	must(e)
	_, last, e := c.Block(node, st.Height)
	must(e)
	b, e := chain.Make(st, c.Registry(), nil, nil, last, by)
	must(e)
	id, e := wire.BlockId(b.Header)
	must(e)
	x := api.Proposal{Height: b.Header.Height, Round: round, ValidRound: -1, Id: id, From: by}
	return done(c.Lie(liar, to, api.Msg{Kind: api.MsgProposal, Proposal: x, Block: b}))
}
