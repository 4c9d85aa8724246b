package client

import (
	"errors"
	"strconv"

	"assent/api"
)

// refusal is a source's own: it says that it shows nothing.
type refusal struct{ number api.Errno }

func (r refusal) Error() string {
	return "the source refuses with error " + strconv.Itoa(int(r.number))
}

// errLie: the source has shown something that its proof does not bear out.
var errLie = errors.New("the source lies")

// proved asks a source, once, and takes what it shows only as far as that is verified.
func proved[S, T any](ask func() (S, api.Errno), verify func(S) (T, api.Errno)) (T, error) {
	var none T
	s, e := answered(ask)
	if e != api.OK {
		return none, refusal{e}
	}
	x, e := verify(s)
	if e != api.OK {
		return none, errLie
	}
	return x, nil
}

// answered is what a source answers. One that panics shows nothing: that is its refusal, for no call of this package panics.
func answered[S any](ask func() (S, api.Errno)) (s S, e api.Errno) {
	defer func() {
		if recover() != nil {
			var none S
			s, e = none, api.ErrNone
		}
	}()
	return ask()
}

// numberOf tells a refusal, by the number that the source gave, from a lie.
func numberOf(err error) api.Errno {
	var r refusal
	switch {
	case err == nil:
		return api.OK
	case errors.As(err, &r):
		return r.number
	}
	return api.ErrLie
}
