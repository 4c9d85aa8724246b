package archive_test

import (
	"testing"

	"assent/api"
	"assent/wire"
)

// TestNoteRefused: states that have no form, with wire's error, and states of other heights.
func TestNoteRefused(t *testing.T) {
	w := newWorld(t)
	w.is("A8: height 0 with head 0", w.a.Note(state(0, 0)), api.ErrGap)
	w.is("A8: height 1 with head 0", w.a.Note(state(1, 0)), api.ErrGap)
	w.is("A8: the zero state", w.a.Note(api.State{}), api.ErrField)
	w.at("A8", 0, 0)
	w = grown(t, 3)
	w.is("A8", w.a.Note(state(3, 0)), api.OK)
	for what, c := range map[string]struct {
		bend func(st *api.State)
		want api.Errno
	}{
		"no chain":                 {func(st *api.State) { st.Chain = "" }, api.ErrField},
		"no seats":                 {func(st *api.State) { st.Params.Seats = 0 }, api.ErrField},
		"a height above":           {func(st *api.State) { st.Height = api.MaxHeight + 1 }, api.ErrField},
		"too many members":         {func(st *api.State) { st.Next.Members = make([]api.Member, api.MaxSeats+1) }, api.ErrBig},
		"too much past":            {func(st *api.State) { st.Past = make([]api.Past, api.MaxAge+1) }, api.ErrBig},
		"members out of order":     {func(st *api.State) { m := st.Council.Members; m[0], m[1] = m[1], m[0] }, api.ErrOrder},
		"out of order, of another": {func(st *api.State) { st.Height = 2; m := st.Council.Members; m[0], m[1] = m[1], m[0] }, api.ErrOrder},
		"no chain, of no height":   {func(st *api.State) { st.Height = 0; st.Chain = "" }, api.ErrField},
		"of the beginning":         {func(st *api.State) { st.Height = 0 }, api.ErrGap},
		"of the height ahead":      {func(st *api.State) { st.Height = 2 }, api.ErrGap},
		"of the next height":       {func(st *api.State) { st.Height = 4 }, api.ErrGap},
		"of the greatest height":   {func(st *api.State) { st.Height = api.MaxHeight }, api.ErrGap},
	} {
		st := state(3, 1)
		c.bend(&st)
		if _, e := wire.EncodeState(st); c.want != api.ErrGap && e != c.want {
			t.Errorf("%s: wire says %d", what, e)
		}
		w.is("A8: "+what, w.a.Note(st), c.want)
		w.at("A8: "+what, 3, 4)
		w.noted("A8: "+what, state(3, 0), api.OK)
	}
	w.is("A8: once more", w.a.Note(state(3, 1)), api.OK)
	w.at("A8", 3, 5)
	w.noted("P13.4", state(3, 1), api.OK)
}

// TestNotedStays: the last note is told also when the head has gone on, and anew.
func TestNotedStays(t *testing.T) {
	w := grown(t, 2)
	w.noted("A9: none", api.State{}, api.OK)
	w.is("A8", w.a.Note(state(2, 0)), api.OK)
	w.save("A5", 3, api.OK)
	w.save("A5", 4, api.OK)
	w.noted("P13.4", state(2, 0), api.OK)
	w.again(4)
	w.noted("P13.4", state(2, 0), api.OK)
	w.is("A8", w.a.Note(state(2, 0)), api.ErrGap)
	w.is("A8", w.a.Note(state(4, 9)), api.OK)
	w.noted("P13.4", state(4, 9), api.OK)
	w.d.Remove("state")
	w.noted("A9: none any more", api.State{}, api.OK)
	w.d.Crash(nil, 0)
	w.noted("A9: off, ahead of there being none", api.State{}, api.ErrOff)
}
