package archive

import (
	"errors"
	"strconv"

	"assent/api"
)

// fault is an error's number as an error.
type fault struct {
	number api.Errno
	kills  bool // the disk has refused to write
}

func (f fault) Error() string { return "error " + strconv.Itoa(int(f.number)) }

// spoilt wraps what is wrong with a file: whatever that is, it is told as spoilt.
type spoilt struct{ why error }

func (s spoilt) Error() string { return "spoilt: " + s.why.Error() }

func (s spoilt) Unwrap() error { return s.why }

func spoiltBy(number api.Errno) error { return spoilt{why: fault{number: number}} }

// numberOf is how an error is told; of none it is OK.
func numberOf(err error) api.Errno {
	var bad spoilt
	if errors.As(err, &bad) {
		return api.ErrSpoilt
	}
	var why fault
	errors.As(err, &why)
	return why.number
}
