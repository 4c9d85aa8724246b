package node_test

import (
	"strconv"
	"testing"

	"assent/api"
)

// script is something that comes to a node, by its clock.
type script func(w *world, now uint64) api.Errno

// ticks alone: a chain of one member.
func ticks(w *world, now uint64) api.Errno { return w.n.Tick(now) }

// others is a chain of four members, of whom the others follow what own proposes and votes, and decide without it where it is not own's turn.
func others(w *world, now uint64) api.Errno {
	if e := w.n.Tick(now); e != api.OK {
		return e
	}
	v := w.n.View()
	if v.Step == api.StepNew {
		return api.OK
	}
	var msgs []api.Msg
	switch by := w.proposer(v.Round); {
	case by == w.own && v.Step == api.StepPropose: // nothing was proposed
	case by == w.own:
		msgs = w.followers(v.Height)
	case v.Height%2 == 0:
		b := w.block(by)
		msgs = append(msgs, decision(b, w.cert(0, b, max(now, b.Header.Time+1), 2, 3, 4)))
	default:
		msgs = append(msgs, voted(w.precommit(v.Round, none, 0, 2)), voted(w.precommit(v.Round, none, 0, 3)), voted(w.precommit(v.Round, none, 0, 4)))
	}
	for _, m := range msgs {
		e := w.n.Deliver(1, form(w.t, m))
		if e != api.OK && e != api.ErrSource { // the height may be decided by then
			return e
		}
	}
	return api.OK
}

// followers are the votes of 2, 3 and 4 for what own has proposed last at a height, as its log tells.
func (w *world) followers(height uint64) (msgs []api.Msg) {
	w.t.Helper()
	var built *api.Input
	for _, in := range w.records(height) {
		if in.Kind == api.InBuilt {
			built = &in
		}
	}
	if built == nil {
		return nil
	}
	id := idOf(built.Block)
	for a := api.Addr(2); a <= 4; a++ {
		msgs = append(msgs, voted(w.prevote(built.Round, id, a)))
	}
	for a := api.Addr(2); a <= 4; a++ {
		msgs = append(msgs, voted(w.precommit(built.Round, id, built.Block.Header.Time+1, a)))
	}
	return msgs
}

// lives plays a script from 100 on, opening the node anew whenever the disk refuses, and tells how many calls of the disk there were till the first refusal.
func (w *world) lives(play script, ticks int, power func(w *world)) (calls int) {
	w.t.Helper()
	height := uint64(0)
	first := true
	for now := uint64(100); now < 100+uint64(ticks); now++ {
		e := play(w, now)
		h := w.n.State().Height
		if h < height {
			w.t.Fatalf("P15.3: height %d, it was %d", h, height)
		}
		height = h
		if e == api.OK {
			continue
		}
		if e != api.ErrFault && e != api.ErrOff {
			w.t.Fatalf("N1: error %d", e)
		}
		if first {
			calls, first = w.d.Calls(), false
		}
		w.at("N1", h, true)
		if e == api.ErrOff {
			power(w)
		}
		w.open(now)
		if got := w.n.State().Height; got < height || got > height+1 {
			w.t.Fatalf("P15.3: opened at %d, it was %d", got, height)
		}
		height = w.n.State().Height
	}
	if first {
		calls = w.d.Calls()
	}
	return calls
}

// TestEveryCall: wherever a fault befalls a call of the disk, or the power goes with it, nothing is lost, own contradicts itself nowhere, and the chain goes on.
func TestEveryCall(t *testing.T) {
	for _, c := range []life{
		{"alone", 1, ticks, 26, 10},
		{"with others", 4, others, 60, 7},
	} {
		w := begin(t, c.members, 1)
		all := w.lives(c.play, c.ticks, nil)
		if h := w.n.State().Height; h < c.heights+2 {
			t.Fatalf("%s: height %d without any trouble", c.what, h)
		}
		for k, tr := range []api.Trouble{{Kind: api.TrFault}, {Kind: api.TrPower}, {Kind: api.TrPower, Done: true}} {
			for _, keep := range []int{0, 9, 1 << 20}[:1+min(k, 1)*2] { // behind a fault there is no crash
				t.Run(c.what+" "+strconv.Itoa(k)+" "+strconv.Itoa(keep), func(t *testing.T) {
					t.Parallel()
					for at := 1; at <= all; at++ {
						c.withTrouble(t, at, tr, keep)
					}
				})
			}
		}
	}
}

// life is a script, for so many members and ticks, and the least height that it comes to whatever befalls.
type life struct {
	what    string
	members int
	play    script
	ticks   int
	heights uint64
}

// withTrouble plays it with a trouble at a call of the disk; of what was not synced so many bytes of a file are kept.
func (c life) withTrouble(t *testing.T, at int, tr api.Trouble, keep int) {
	t.Helper()
	w := begin(t, c.members, 1)
	w.arm(at, tr.Kind, tr.Done)
	w.lives(c.play, c.ticks, func(w *world) { w.crash(repeated(keep, 100)...) })
	if h := w.n.State().Height; h < c.heights {
		t.Fatalf("%s: height %d behind a trouble at %d", c.what, h, at)
	}
	w.isPlayed("P15.2")
	w.isHonest()
}

func repeated(n, times int) (l []int) {
	for range times {
		l = append(l, n)
	}
	return l
}

// TestCrashWithinOpen: likewise where the power goes again while the node is being opened.
func TestCrashWithinOpen(t *testing.T) {
	for at := 1; at <= 12; at++ {
		for again := 1; again <= 4; again++ {
			for _, done := range []bool{false, true} {
				w := begin(t, 1, 1)
				w.arm(at, api.TrPower, done)
				now := uint64(100)
				for ; w.n.Tick(now) == api.OK; now++ {
				}
				was := w.n.State().Height
				for k := again; k > 0; k-- {
					w.crash()
					w.arm(k, api.TrPower, !done)
					if w.tryOpen(now) == api.OK {
						was = w.n.State().Height
					}
				}
				w.crash()
				w.open(now)
				if h := w.n.State().Height; h < was {
					t.Fatalf("P15.3: height %d, it was %d", h, was)
				}
				for range 9 {
					now++
					w.tick("N6", now, api.OK)
				}
				w.isPlayed("P15.2")
				w.isHonest()
			}
		}
	}
}
