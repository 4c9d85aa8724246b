package node_test

import (
	"math"
	"math/rand"
	"reflect"
	"slices"
	"testing"

	"assent/api"
	"assent/disk"
	"assent/node"
	"assent/seal"
	"assent/wire"
)

// copyOf is what an object holds in another place: no call of its package made that.
func copyOf[T any](was *T) *T {
	c := reflect.New(reflect.TypeFor[T]())
	c.Elem().Set(reflect.ValueOf(was).Elem())
	return c.Interface().(*T)
}

// TestNotMade: a node that Open did not make answers ErrNil, ahead of all else, and nothing.
func TestNotMade(t *testing.T) {
	w := alone(t, 3)
	w.is("N7", w.n.Submit(w.pay(1, 2, 1, 1, 0)), api.OK)
	dead := alone(t, 1)
	dead.arm(1, api.TrFault, false)
	dead.tick("N1", 110, api.ErrFault)
	for what, n := range map[string]*node.Node{"nil": nil, "zero": {}, "a copy": copyOf(w.n), "a copy of a dead one": copyOf(dead.n)} {
		was := w.told()
		for _, e := range []api.Errno{n.Deliver(0, nil), n.Deliver(-1, form(t, api.Msg{Kind: api.MsgStatus, Height: 1})), n.Tick(0), n.Tick(math.MaxUint64), n.Submit(api.Tx{}), n.Submit(w.n.Pool()[0])} {
			w.is("G1: "+what, e, api.ErrNil)
		}
		if n.Out() != nil || !reflect.DeepEqual(n.State(), api.State{}) || n.View() != (api.View{}) || n.Pool() != nil || n.Clock() != 0 || n.Dead() {
			t.Errorf("N8: %s tells something", what)
		}
		for _, h := range []uint64{0, 1, 2, 9, math.MaxUint64} {
			b, c, e := n.Block(h)
			w.is("G1: "+what, e, api.ErrNil)
			a, e := n.Answer(h)
			w.is("G1: "+what, e, api.ErrNil)
			if !reflect.DeepEqual(b, api.Block{}) || !reflect.DeepEqual(c, api.Cert{}) || !reflect.DeepEqual(a, api.LightBlock{}) {
				t.Errorf("G2: %s: something beside an error", what)
			}
		}
		if got := w.told(); !reflect.DeepEqual(got, was) {
			t.Errorf("G1: %s: something has changed", what)
		}
	}
	w.sent("N8: what is to be sent is there yet", api.MsgTx)
}

// TestWrittenOver: where the disk, the registry or the signer is none any more no call panics, and nothing that needs them is done.
func TestWrittenOver(t *testing.T) {
	w := started(t, 4, 2)
	b := w.block(1)
	m, v := w.proposal(0, -1, b), voted(w.prevote(0, none, 3))
	*w.d = disk.Disk{}
	if e := w.n.Deliver(0, form(t, m)); e == api.OK || !w.n.Dead() {
		t.Errorf("G7: error %d without a disk", e)
	}
	if _, _, e := w.n.Block(1); e == api.OK {
		t.Errorf("G1: a block without a disk")
	}
	w = started(t, 4, 2)
	m = w.proposal(0, -1, b)
	*w.r = seal.Registry{}
	w.n.Out()
	w.is("G1: nothing is sealed rightly any more", w.n.Deliver(0, form(t, m)), api.ErrSeal)
	w.is("G1: nothing is sealed rightly any more", w.n.Deliver(0, form(t, v)), api.ErrSeal)
	w.is("N6", w.n.Tick(200), api.OK)
	_, all := w.out()
	for _, m := range all {
		if m.Kind != api.MsgStatus {
			t.Errorf("P15.6: what can't be sealed is sent: %+v", m)
		}
	}
	w = alone(t, 1)
	*w.signers[1] = seal.Signer{}
	w.n.Out()
	for now := uint64(104); now < 120; now++ {
		w.is("G1", w.n.Tick(now), api.OK)
	}
	w.sent("P15.6: what can't be sealed is not sent")
	w.at("G1", 1, false)
}

// edges are numbers at which something might wrap.
var edges = []uint64{0, 1, 2, 3, 4, 5, 10, 64, 100, 1000, api.MaxRound, api.MaxTicks, api.MaxHeight, api.MaxHeight + 1, api.MaxTime, api.MaxTime + 1, api.MaxSupply, api.MaxSupply + 1, math.MaxInt64, math.MaxInt64 + 1, math.MaxUint64 - 1, math.MaxUint64}

// fill lays any numbers into all that a value has, and lists of a few elements.
func fill(r *rand.Rand, v reflect.Value) {
	switch v.Kind() {
	case reflect.Struct:
		for k := range v.NumField() {
			fill(r, v.Field(k))
		}
	case reflect.Array:
		v.Index(r.Intn(v.Len())).SetUint(uint64(r.Intn(3)))
	case reflect.Slice:
		v.Set(reflect.MakeSlice(v.Type(), r.Intn(4), 4))
		for k := range v.Len() {
			fill(r, v.Index(k))
		}
	case reflect.Uint64, reflect.Uint8:
		v.SetUint(edges[r.Intn(len(edges))])
	case reflect.Int, reflect.Int64:
		v.SetInt(int64(edges[r.Intn(len(edges))]))
	case reflect.String:
		v.SetString([]string{"", name, "seventeen letters"}[r.Intn(3)])
	case reflect.Bool:
		v.SetBool(r.Intn(2) == 0)
	default:
		panic(v.Kind())
	}
}

// bent is a value of which some parts hold something else, its lists new.
func bent[T any](r *rand.Rand, x T, parts int) T {
	x = roomy(x)
	for range parts {
		v := reflect.ValueOf(&x).Elem()
		for {
			if v.Kind() == reflect.Struct {
				v = v.Field(r.Intn(v.NumField()))
				continue
			}
			if v.Kind() == reflect.Slice && v.Len() > 0 && r.Intn(4) > 0 {
				v = v.Index(r.Intn(v.Len()))
				continue
			}
			fill(r, v)
			break
		}
	}
	return x
}

// TestWhateverGenesis: Open takes just what chain.Begin takes.
func TestWhateverGenesis(t *testing.T) {
	r := rand.New(rand.NewSource(151))
	counts := map[api.Errno]int{}
	for range 1500 {
		g := bent(r, genesis(3), 1+r.Intn(3))
		w := newWorld(t, g, api.Addr(r.Intn(5)))
		now := edges[r.Intn(len(edges))]
		e := w.tryOpen(now)
		counts[e]++
		if now > api.MaxTime {
			w.is("N4", e, api.ErrArg)
		}
		if e != api.OK {
			continue
		}
		for range 6 {
			w.n.Tick(edges[r.Intn(len(edges))])
			w.n.Submit(bent(r, w.pay(1, 2, 1, 0, 0), 1))
		}
		w.n.Tick(api.MaxTime)
		w.out()
	}
	for _, e := range []api.Errno{api.OK, api.ErrArg, api.ErrOrder, api.ErrSum, api.ErrNobody} {
		if counts[e] == 0 {
			t.Errorf("error %d was never answered: %v", e, counts)
		}
	}
}

// TestWhateverMessages: messages of whatever content, transactions of whatever content, bytes of whatever kind, numbers of whatever size: every call ends, nothing is sent that has no form, and the node goes on.
func TestWhateverMessages(t *testing.T) {
	r := rand.New(rand.NewSource(152))
	w := begin(t, 4, 1)
	w.grow(2)
	w.tick("N6", 102, api.OK)
	b := w.block(2)
	good := []api.Msg{
		voted(w.prevote(0, idOf(b), 2)), voted(w.precommit(1, idOf(b), 105, 3)), w.proposal(1, -1, b), w.proposal(2, 0, b, w.polka(0, idOf(b), 2, 3, 4)...),
		{Kind: api.MsgPolka, Block: b, Votes: w.polka(0, idOf(b), 2, 3, 4)}, {Kind: api.MsgStatus, Height: 1}, decision(b, w.cert(0, b, 200, 2, 3, 4)),
		{Kind: api.MsgTx, Tx: w.pay(2, 3, 1, 1, 0)}, {Kind: api.MsgEvidence, Evidence: w.evidence(2, 4)},
	}
	counts := map[api.Errno]int{}
	for range 6000 {
		m := bent(r, good[r.Intn(len(good))], r.Intn(3))
		if m.Kind == api.MsgDecision && wire.PlainMsg(m) == api.OK && idOf(m.Block) == idOf(b) {
			continue // the height is not to be decided here
		}
		bytes, e := wire.EncodeMsg(m)
		if e != api.OK || r.Intn(6) == 0 {
			bytes = slices.Clone(form(t, good[r.Intn(len(good))]))
			bytes = bytes[:len(bytes)-r.Intn(min(3, len(bytes)))]
			bytes[r.Intn(len(bytes))] ^= byte(1 + r.Intn(255))
		}
		e = w.n.Deliver(int(int64(edges[r.Intn(len(edges))])), bytes)
		counts[e]++
		if e != api.OK {
			w.sent("G2")
		}
		if r.Intn(10) == 0 {
			counts[w.n.Submit(bent(r, good[7].Tx, 1))]++
			w.n.Block(edges[r.Intn(len(edges))])
			w.n.Answer(edges[r.Intn(len(edges))])
		}
		w.out()
	}
	w.at("G1", 2, false)
	for _, e := range []api.Errno{api.OK, api.ErrCut, api.ErrForm, api.ErrRest, api.ErrField, api.ErrSource, api.ErrMember, api.ErrSeal, api.ErrInput, api.ErrCert} {
		if counts[e] == 0 {
			t.Errorf("error %d was never answered: %v", e, counts)
		}
	}
	w.deliver("G1: it goes on", good[6], api.OK)
}

// roomy is the same value, each list of it new, with room behind in which something stands.
func roomy[T any](x T) T {
	giveRoom(reflect.ValueOf(&x).Elem())
	return x
}

func giveRoom(v reflect.Value) {
	switch v.Kind() {
	case reflect.Struct:
		for k := range v.NumField() {
			giveRoom(v.Field(k))
		}
	case reflect.Slice:
		n := v.Len()
		more := reflect.MakeSlice(v.Type(), n+3, n+3)
		reflect.Copy(more, v)
		r := rand.New(rand.NewSource(int64(n)))
		for k := range n + 3 {
			if k < n {
				giveRoom(more.Index(k))
			} else {
				fill(r, more.Index(k))
			}
		}
		v.Set(more.Slice(0, n))
	}
}

// whole is a copy of a value with all that lies in the room behind its lists.
func whole[T any](x T) T {
	takeWhole(reflect.ValueOf(&x).Elem())
	return x
}

func takeWhole(v reflect.Value) {
	switch v.Kind() {
	case reflect.Struct:
		for k := range v.NumField() {
			takeWhole(v.Field(k))
		}
	case reflect.Slice:
		c := reflect.MakeSlice(v.Type(), v.Cap(), v.Cap())
		reflect.Copy(c, v.Slice(0, v.Cap()))
		for k := range c.Len() {
			takeWhole(c.Index(k))
		}
		v.Set(c)
	}
}

// spoil writes over all lists of a value, and over the room behind them.
func spoil(x any) { spoilLists(reflect.ValueOf(x), rand.New(rand.NewSource(1))) }

func spoilLists(v reflect.Value, r *rand.Rand) {
	switch v.Kind() {
	case reflect.Struct:
		for k := range v.NumField() {
			spoilLists(v.Field(k), r)
		}
	case reflect.Slice:
		v = v.Slice(0, v.Cap())
		for k := range v.Len() {
			spoilLists(v.Index(k), r)
			fill(r, v.Index(k))
		}
	}
}

// stretch is where a list lies, with the room behind it.
type stretch struct{ from, to uintptr }

func stretches(v reflect.Value) (all []stretch) {
	switch v.Kind() {
	case reflect.Struct:
		for k := range v.NumField() {
			all = append(all, stretches(v.Field(k))...)
		}
	case reflect.Slice:
		if v.Cap() == 0 {
			return nil
		}
		v = v.Slice(0, v.Cap())
		all = append(all, stretch{v.Pointer(), v.Pointer() + uintptr(v.Cap())*v.Type().Elem().Size()})
		for k := range v.Len() {
			all = append(all, stretches(v.Index(k))...)
		}
	}
	return all
}

// wantApart: no two lists of these values lie in one place.
func wantApart(t *testing.T, what string, values ...any) {
	t.Helper()
	var all []stretch
	for _, x := range values {
		all = append(all, stretches(reflect.ValueOf(x))...)
	}
	slices.SortFunc(all, func(x, y stretch) int {
		if x.from < y.from {
			return -1
		}
		return 1
	})
	for k := 1; k < len(all); k++ {
		if all[k].from < all[k-1].to {
			t.Fatalf("G3: %s: two lists share memory", what)
		}
	}
}

// rich is a world in which every list of every answer has something.
func rich(t *testing.T) *world {
	t.Helper()
	g := roomy(genesis(4))
	g.Params.Age, g.Params.Period = 20, 30
	w := newWorld(t, g, 1)
	w.open(100)
	w.grow(3)
	w.deliver("N5", api.Msg{Kind: api.MsgEvidence, Evidence: w.evidence(3, 4)}, api.OK)
	free := w.sealTx(api.Tx{Kind: api.TxUnbond, From: 2, Amount: 3})
	w.deliver("N5", api.Msg{Kind: api.MsgTx, Tx: free}, api.OK)
	for k := 0; k < 200 && w.n.State().Height == 3; k++ { // till own makes a block of it
		w.tick("N6", w.n.Clock()+1, api.OK)
		v := w.n.View()
		if v.Step == api.StepNew {
			continue
		}
		if _, all := w.out(); len(all) > 0 && all[0].Kind == api.MsgProposal {
			w.deliver("N5", decision(all[0].Block, w.cert(0, all[0].Block, w.n.Clock(), 1, 2, 3)), api.OK)
			break
		}
		for _, a := range []api.Addr{2, 3, 4} {
			if w.proposer(v.Round) != 1 && w.n.View().Round == v.Round {
				w.deliver("N5", voted(w.precommit(v.Round, none, 0, a)), api.OK)
			}
		}
	}
	st := w.n.State()
	if st.Height != 4 || len(st.Punished) == 0 || len(st.Ledger.Releases) == 0 {
		t.Fatalf("height %d, %d punished, %d releases", st.Height, len(st.Punished), len(st.Ledger.Releases))
	}
	w.grow2(5)
	w.is("N7", w.n.Submit(w.pay(3, 7, 1, 2, 0)), api.OK)
	w.is("N7", w.n.Submit(w.pay(2, 7, 1, 1, 1)), api.OK)
	return w
}

// grow2 has the node learn of blocks that 1, 2 and 3 have decided; 4 is in jail.
func (w *world) grow2(blocks int) {
	w.t.Helper()
	for range blocks {
		b := w.block(2)
		w.deliver("N5", decision(b, w.cert(0, b, max(b.Header.Time+1, w.n.Clock()), 1, 2, 3)), api.OK)
	}
}

// TestHandedOut: each answer is new memory, its spare room too, and writing it over changes nothing.
func TestHandedOut(t *testing.T) {
	for _, opened := range []bool{false, true} {
		w := rich(t)
		if opened { // from a noted state on
			w.n.Out()
			w.open(150)
			w.is("N7", w.n.Submit(w.pay(3, 7, 1, 2, 0)), api.OK)
		}
		was := w.told()
		var all []any
		for range 2 {
			w.is("N5", w.n.Deliver(2, form(t, api.Msg{Kind: api.MsgStatus, Height: 2})), api.OK)
			x := told{}.of(w.n)
			all = append(all, w.n.Out(), x.State, x.Pool)
			for k := range x.Blocks {
				all = append(all, x.Blocks[k], x.Certs[k], x.Answers[k])
			}
		}
		wantApart(t, "answers", all...)
		for _, x := range all {
			spoil(x)
		}
		if got := w.told(); !reflect.DeepEqual(got, was) {
			t.Fatalf("G3: an answer that is written over is seen again")
		}
		w.tick("N6", 170, api.OK)
		w.out() // all has its form
		w.isPlayed("G3")
	}
}

// TestOutKept: what Out has told is not written over by what is sent later.
func TestOutKept(t *testing.T) {
	w := begin(t, 4, 1)
	var all [][]api.Out
	var copies []any
	for now := uint64(101); now < 260; now += 3 {
		w.tick("N6", now, api.OK)
		out := w.n.Out()
		all = append(all, out)
		copies = append(copies, whole(out))
	}
	for k, out := range all {
		if !reflect.DeepEqual(whole(out), copies[k]) {
			t.Fatalf("G3: what was sent at the Tick %d is written over", k)
		}
	}
	var values []any
	for _, out := range all {
		values = append(values, out)
	}
	wantApart(t, "what is sent", values...)
}

// TestHandedIn: what is handed in is not changed, nor the room behind it, and not kept.
func TestHandedIn(t *testing.T) {
	play := func(spoils bool) (told, [][]api.Out) {
		w := newWorld(t, roomy(genesis(4)), 1)
		was := whole(w.g)
		w.open(100)
		if !reflect.DeepEqual(whole(w.g), was) {
			t.Fatalf("G3: the genesis has changed")
		}
		if spoils {
			spoil(w.g)
		}
		w.g = genesis(4)
		var outs [][]api.Out
		hand := func(m api.Msg, want api.Errno) {
			b := roomy(form(t, m))
			was := whole(b)
			w.is("N5", w.n.Deliver(3, b), want)
			if !reflect.DeepEqual(whole(b), was) {
				t.Fatalf("G3: a message has changed")
			}
			if spoils {
				spoil(b)
			}
			outs = append(outs, w.n.Out())
		}
		b := w.block(2)
		hand(decision(b, w.cert(0, b, 130, 2, 3, 4)), api.OK)
		hand(api.Msg{Kind: api.MsgTx, Tx: w.pay(2, 3, 1, 1, 0)}, api.OK)
		hand(api.Msg{Kind: api.MsgEvidence, Evidence: w.evidence(1, 4)}, api.OK)
		w.tick("N6", 102, api.OK)
		b = w.block(3)
		hand(api.Msg{Kind: api.MsgPolka, Block: b, Votes: w.polka(0, idOf(b), 2, 3, 4)}, api.OK)
		hand(w.proposal(0, -1, b), api.OK)
		hand(voted(w.precommit(0, idOf(b), 140, 2)), api.OK)
		hand(voted(w.precommit(0, idOf(b), 140, 3)), api.OK)
		w.tick("N6", 160, api.OK)
		outs = append(outs, w.n.Out())
		hand(voted(w.precommit(0, idOf(b), 140, 4)), api.OK)
		hand(api.Msg{Kind: api.MsgStatus, Height: 2}, api.OK)
		return w.told(), outs
	}
	one, first := play(false)
	two, second := play(true)
	if one.State.Height != 2 || !reflect.DeepEqual(one, two) || !reflect.DeepEqual(first, second) {
		t.Errorf("G3: what was handed in is kept: height %d, %d", one.State.Height, two.State.Height)
	}
}

// TestAgainTheSame: the same calls, with another disk and another book, answer the same and leave the same.
func TestAgainTheSame(t *testing.T) {
	play := func() (all []any) {
		w := rich(t)
		all = append(all, w.told(), w.n.Out())
		w.arm(7, api.TrPower, true)
		for now := uint64(150); now < 190; now++ {
			all = append(all, w.n.Tick(now), w.n.View())
		}
		all = append(all, w.n.Out(), w.n.Dead())
		im, _ := w.d.Crash([]int{3, 4, 5}, 1)
		for a := range api.Addr(6) {
			all = append(all, w.r.Signed(a))
		}
		return append(all, im)
	}
	if first, second := play(), play(); !reflect.DeepEqual(first, second) {
		t.Errorf("G4: the same calls answer other things")
	}
}

// TestApart: nodes of two Opens have nothing in common but what they were handed.
func TestApart(t *testing.T) {
	w := alone(t, 2)
	was := w.told()
	other := newWorld(t, w.g, 1)
	other.r, other.signers = w.r, w.signers // the same book, another disk
	other.open(100)
	other.tick("N6", 101, api.OK)
	if got := w.told(); !reflect.DeepEqual(got, was) {
		t.Errorf("G4: a node has changed another one")
	}
	w.tick("N6", 106, api.OK)
	w.at("G4", 3, false)
	other.at("G4", 0, false)
}
