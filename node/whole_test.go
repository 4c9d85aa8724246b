package node_test

import (
	"encoding/hex"
	"testing"

	"assent/api"
	"assent/disk"
	"assent/ledger"
	"assent/node"
	"assent/seal"
	"assent/wire"
)

// cast is the world of DOC.md's ten examples: honest nodes, liars that are addresses alone, and what is under way, which goes by rounds.
type cast struct {
	t     *testing.T
	g     api.Genesis
	r     *seal.Registry
	s     map[api.Addr]*seal.Signer
	addrs []api.Addr
	d     []*disk.Disk
	n     []*node.Node
	clock []uint64
	way   []parcel
}

func newCast(t *testing.T) *cast {
	t.Helper()
	x := &cast{t: t, r: seal.New(), s: map[api.Addr]*seal.Signer{}, addrs: []api.Addr{11, 12, 13}}
	x.g = api.Genesis{Chain: "c", Time: 1, Params: api.Params{MinBond: 1, Seats: 64, Slash: 100, Period: 16, Age: 8, MaxTxs: 100, Propose: 6, Votes: 4, Pause: 2, Resend: 5, Trusting: 1000, Drift: 10}}
	for a := api.Addr(11); a <= 14; a++ {
		x.g.Accounts = append(x.g.Accounts, api.Account{Addr: a, Balance: 100, Bond: 5})
		x.s[a], _ = x.r.Enter(a)
	}
	x.g.Accounts = append(x.g.Accounts, api.Account{Addr: 40, Balance: 500})
	x.s[40], _ = x.r.Enter(40)
	for k := range x.addrs {
		d, _ := disk.New(1 << 24)
		x.d, x.n, x.clock = append(x.d, d), append(x.n, nil), append(x.clock, 1)
		x.open(k)
	}
	return x
}

func (x *cast) open(k int) {
	x.t.Helper()
	n, e := node.Open(x.g, x.d[k], x.r, x.s[x.addrs[k]], x.clock[k])
	if e != api.OK {
		x.t.Fatalf("N4: error %d", e)
	}
	x.n[k] = n
	x.collect(k)
}

func (x *cast) collect(k int) {
	for _, o := range x.n[k].Out() {
		for to := range x.n {
			if to != k && (o.To == to || o.To == -1) {
				x.way = append(x.way, parcel{k, to, o.Bytes})
			}
		}
	}
}

func (x *cast) rounds(n int) {
	for range n {
		way := x.way
		x.way = nil
		for _, y := range way {
			x.n[y.to].Deliver(y.from, y.b)
			x.collect(y.to)
		}
		for k := range x.n {
			x.clock[k]++
			x.n[k].Tick(x.clock[k])
			x.collect(k)
		}
	}
}

func (x *cast) submit(k int, y api.Tx) {
	x.t.Helper()
	msg, _ := wire.TxBytes("c", y)
	y.Seal, _ = x.s[y.From].Sign(msg)
	if e := x.n[k].Submit(y); e != api.OK {
		x.t.Fatalf("N7: error %d", e)
	}
	x.collect(k)
}

// lie sends a prevote of the liar 14 to all.
func (x *cast) lie(v api.Vote) {
	x.t.Helper()
	msg, e := wire.VoteBytes("c", v)
	if e != api.OK {
		x.t.Fatalf("VoteBytes: error %d", e)
	}
	v.Seal, _ = x.s[14].Sign(msg)
	for to := range x.n {
		x.way = append(x.way, parcel{3, to, form(x.t, voted(v))})
	}
}

func (x *cast) node(what string, k int, height uint64, round, step, locked, valid int, clock uint64, dead bool) {
	x.t.Helper()
	v := x.n[k].View()
	if got := x.n[k].State().Height; got != height || v.Round != round || v.Step != step || v.Locked != locked || v.Valid != valid || x.clock[k] != clock || x.n[k].Dead() != dead {
		x.t.Fatalf("%s: node %d height %d round %d step %d locked %d valid %d clock %d dead %v", what, k, got, v.Round, v.Step, v.Locked, v.Valid, x.clock[k], x.n[k].Dead())
	}
}

func (x *cast) balance(what string, a api.Addr, balance, nonce uint64) {
	x.t.Helper()
	acc, e := ledger.Find(x.n[0].State().Ledger, a)
	if e != api.OK || acc.Balance != balance || acc.Nonce != nonce {
		x.t.Fatalf("%s: %+v, error %d", what, acc, e)
	}
}

// TestWhole: the ten examples of the whole, as far as nodes come to them.
func TestWhole(t *testing.T) {
	x := newCast(t)
	x.node("example 2", 0, 0, 0, 0, -1, -1, 1, false)
	x.rounds(30)
	x.node("example 3", 0, 3, 1, 2, -1, -1, 31, false)
	x.submit(0, api.Tx{Kind: api.TxPay, From: 40, To: 41, Amount: 30, Fee: 2})
	x.rounds(40)
	x.node("example 4", 0, 9, 0, 3, 0, 0, 71, false)
	x.balance("example 5", 41, 30, 0)
	x.balance("example 5", 40, 468, 1)
	for k := range 2 {
		b, c, e := x.n[k].Block(2)
		id := idOf(b)
		if e != api.OK || hex.EncodeToString(id[:]) != "f885f7a2000cd586ed6257e2d2bbfee2e3cfcad351caa980196567ab1d3e0091" || c.Round != 0 || b.Header.Time != 4 || len(b.Txs)+len(b.Evidence) != 0 || b.Header.Proposer != 12 {
			t.Fatalf("example 6: error %d, %x, %+v", e, id, b)
		}
	}
	if e := x.d[0].Arm(api.Trouble{At: 2, Kind: api.TrPower}); e != api.OK {
		t.Fatalf("Arm: error %d", e)
	}
	x.rounds(9)
	x.node("example 7", 0, 9, 0, 3, 0, 0, 80, true)
	im, _ := x.d[0].Crash([]int{5, 5, 5, 5}, 0)
	x.d[0], _ = disk.Mount(im, 1<<24)
	x.open(0)
	x.node("example 8", 0, 9, 0, 3, 0, 0, 80, false)
	x.rounds(60)
	x.node("example 8", 0, 16, 0, 0, -1, -1, 140, false)
	x.node("example 8", 1, 16, 0, 0, -1, -1, 140, false)
	b, _, _ := x.n[0].Block(1)
	x.lie(api.Vote{Kind: api.Prevote, Height: 9, From: 14})
	x.lie(api.Vote{Kind: api.Prevote, Height: 9, Id: idOf(b), From: 14})
	if len(x.way) != 8 {
		t.Fatalf("example 9: %d are under way", len(x.way))
	}
	x.submit(1, api.Tx{Kind: api.TxBond, From: 40, Amount: 50, Fee: 1, Nonce: 1})
	x.rounds(60)
	var powers []uint64
	for _, m := range x.n[0].State().Council.Members {
		powers = append(powers, uint64(m.Addr), m.Power)
	}
	if got := x.n[0].State().Height; got != 18 || len(powers) != 10 || powers[8] != 40 || powers[9] != 50 {
		t.Fatalf("example 10: height %d, %v", got, powers)
	}
}
