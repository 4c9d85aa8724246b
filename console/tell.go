package console

import (
	"strconv"
	"strings"

	"assent/api"
	"assent/cluster"
	"assent/ledger"
	"assent/wire"
)

func (p *play) tellPending(*words) string { return tell("pending", text(p.cluster().Pending())) }

func (p *play) tellNode(w *words) string {
	at := w.count()
	c := p.cluster()
	st, e := c.State(at)
	must(e)
	v, e := c.View(at)
	must(e)
	clock, e := c.Clock(at)
	must(e)
	line := []string{
		"node", text(at), "height", text(st.Height), "round", text(v.Round), "step", text(v.Step),
		"locked", text(v.Locked), "valid", text(v.Valid), "clock", text(clock),
	}
	if c.Dead(at) {
		line = append(line, "dead")
	}
	return tell(line...)
}

func (p *play) tellBlock(w *words) string {
	node, height := w.count(), w.number()
	x := decided(p.cluster(), node, height)
	h := x.block.Header
	return tell("block", text(h.Height), hexOf(x.id), "round", text(x.round), "time", text(h.Time),
		"txs", text(len(x.block.Txs)), "evidence", text(len(x.block.Evidence)), "by", text(h.Proposer))
}

func (p *play) tellAccount(w *words) string {
	node, a := w.count(), w.addr()
	st, e := p.cluster().State(node)
	must(e)
	x, e := ledger.Find(st.Ledger, a)
	must(e)
	line := []string{"account", text(x.Addr), "balance", text(x.Balance), "bond", text(x.Bond), "nonce", text(x.Nonce)}
	if x.Jailed {
		line = append(line, "jailed")
	}
	return tell(line...)
}

func (p *play) tellCouncil(w *words) string {
	node := w.count()
	st, e := p.cluster().State(node)
	must(e)
	return tellEach(st.Council.Members, func(m api.Member) string {
		return tell("member", text(m.Addr), "power", text(m.Power))
	})
}

func (p *play) tellPool(w *words) string {
	node := w.count()
	waiting, e := p.cluster().Pool(node)
	must(e)
	return tell("pool", text(len(waiting)))
}

func (p *play) tellBlame(*words) string {
	guilts, e := p.cluster().Blame()
	must(e)
	return tellEach(guilts, func(g api.Guilt) string {
		if g.Kind == api.GuiltTwice {
			return tell("guilt", text(g.Addr), "twice")
		}
		return tell("guilt", text(g.Addr), "forgets")
	})
}

// decision is a block that a node tells, its id, and the round in which it was decided.
type decision struct {
	block api.Block
	id    api.Hash
	round int
}

func decided(c *cluster.Cluster, node int, height uint64) decision {
	b, cert, e := c.Block(node, height)
	must(e)
	id, e := wire.BlockId(b.Header)
	must(e)
	return decision{b, id, cert.Round}
}

// done is the answer of a line that only has something come to pass.
func done(e api.Errno) string {
	must(e)
	return tell("ok")
}

func tellRefusal(e api.Errno) string { return tell("error", text(e)) }

// tell is one line.
func tell(words ...string) string { return strings.Join(words, " ") + "\n" }

// tellEach is a line for each element of a list.
func tellEach[T any](list []T, line func(T) string) string {
	var told strings.Builder
	for _, x := range list {
		told.WriteString(line(x))
	}
	return told.String()
}

// text is a number by its digits.
func text[N ~int | ~uint64](n N) string {
	if n < 0 {
		return "-" + strconv.FormatUint(-uint64(n), 10)
	}
	return strconv.FormatUint(uint64(n), 10)
}

func hexOf(id api.Hash) string {
	var told strings.Builder
	for _, b := range id {
		told.WriteByte(digits[b>>4])
		told.WriteByte(digits[b&15])
	}
	return told.String()
}
