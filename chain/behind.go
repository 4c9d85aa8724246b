package chain

import (
	"slices"

	"assent/api"
	"assent/ledger"
	"assent/wire"
)

// behind is the state behind a block that was looked over: the one ahead as a value, its lists anew.
func (w *work) behind() (api.State, api.Errno) {
	id, e := wire.BlockId(w.b.Header)
	if e != api.OK {
		return api.State{}, e
	}
	next, e := councilBehind(w.st.Next, ledger.Seats(w.ledger, w.st.Params))
	if e != api.OK {
		return api.State{}, e
	}
	st := w.st
	st.Height, st.Time, st.Last = w.b.Header.Height, w.b.Header.Time, id
	st.Council, st.Next = copyOf(w.st.Next), next
	st.Past = w.pastBehind()
	st.Punished = w.punishedBehind(st.Past[0].Height)
	st.Ledger = w.ledger
	return st, api.OK
}

// pastBehind has the height that is decided now, and as many ahead of it as evidence counts for.
func (w *work) pastBehind() []api.Past {
	now := api.Past{Height: w.b.Header.Height, Time: w.b.Header.Time, Council: w.st.Council}
	past := append(copied(w.st.Past), now)
	if uint64(len(past)) > w.st.Params.Age {
		past = past[1:]
	}
	for k := range past {
		past[k].Council = copyOf(past[k].Council)
	}
	return past
}

// punishedBehind has the offences from the first height on for which evidence still counts.
func (w *work) punishedBehind(first uint64) (all []api.Offence) {
	note := func(o api.Offence) {
		if o.Height >= first {
			all = append(all, o)
		}
	}
	for _, o := range w.st.Punished {
		note(o)
	}
	for _, v := range w.b.Evidence {
		note(offenceOf(v))
	}
	slices.SortFunc(all, byHeight)
	return all
}

func copyOf(c api.Council) api.Council { return api.Council{Members: copied(c.Members)} }
