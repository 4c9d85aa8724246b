package console

import "assent/api"

// refused is what a line gives up with.
type refused struct{ number api.Errno }

// must gives the line up, if what it can't go on without was refused.
func must(e api.Errno) {
	if e != api.OK {
		panic(refused{e})
	}
}

// numberOf is the error of a line that was given up for that cause. The layers below give up by no panic; if one did, nobody could say what stands there now.
func numberOf(cause any) api.Errno {
	if why, ok := cause.(refused); ok {
		return why.number
	}
	return api.ErrDead
}
