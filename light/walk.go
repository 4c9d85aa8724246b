package light

import "assent/api"

// walk is how an Update goes from a trusted block up to a height.
type walk struct {
	*Client
	fetch   func(height uint64) (api.LightBlock, api.Errno)
	fetched int
	t       api.LightBlock   // from which it looks
	pile    []api.LightBlock // at which it is still to look, the lowest one on top
	come    []api.LightBlock // all that have been t since it began
}

// to looks at the block of a height, and first at as many below it as that needs.
func (w *walk) to(height uint64) api.Errno {
	e := w.lay(height)
	for e == api.OK && len(w.pile) > 0 {
		e = w.step()
	}
	return e
}

// step looks at the topmost block: it goes on to it, or lays one half way upon it.
func (w *walk) step() api.Errno {
	top := len(w.pile) - 1
	u := w.pile[top]
	e := w.refusal(u)
	switch e {
	case api.OK:
		w.t, w.pile, w.come = u, w.pile[:top], append(w.come, u)
	case api.ErrTrust:
		return w.lay((w.t.Header.Height + u.Header.Height) / 2)
	}
	return e
}

// refusal looks at a block by the client's clock as it is by now: a fetch may have set it on.
func (w *walk) refusal(u api.LightBlock) api.Errno {
	if u.Header.Height == w.t.Header.Height+1 {
		return adjacent{w.look}.refusal(w.t, u)
	}
	return skipping{w.look}.refusal(w.t, u)
}

// lay fetches the block of a height and lays it upon the pile, in memory that whoever gave it can't write over.
func (w *walk) lay(height uint64) api.Errno {
	if w.fetched == api.MaxItems {
		return api.ErrBig
	}
	w.fetched++
	u, e := asked(w.fetch, height)
	switch {
	case e != api.OK:
		return e
	case u.Header.Height != height:
		return api.ErrHeight
	}
	w.pile = append(w.pile, copied(u))
	return api.OK
}

// asked is what a fetch gives. One that panics gives nothing: that is its refusal, for no call of this package panics.
func asked(fetch func(height uint64) (api.LightBlock, api.Errno), height uint64) (u api.LightBlock, e api.Errno) {
	defer func() {
		if recover() != nil {
			u, e = api.LightBlock{}, api.ErrNone
		}
	}()
	return fetch(height)
}

// end undoes a walk that was refused, or cut off within a fetch: then something still lies on the pile. What it came to else is trusted from now on, but for heights that a fetch has made the client trust meanwhile: those stay as they are.
func (w *walk) end() {
	if len(w.pile) > 0 {
		w.come = nil
	}
	for _, u := range w.come {
		if _, there := w.trusted[u.Header.Height]; !there {
			w.trusted[u.Header.Height] = u
		}
	}
}
