package node

import (
	"errors"
	"strconv"

	"assent/api"
)

// refused is what work gives up with that can't go on half way: a refusal by the disk, or what can't be read from it.
type refused struct{ number api.Errno }

func (r refused) Error() string { return "refused: error " + strconv.Itoa(int(r.number)) }

// must gives the work up, if what it can't go on without was refused.
func must(e api.Errno) {
	if e != api.OK {
		panic(refused{e})
	}
}

// caught is what a face answers whose work has ended with that answer, or was given up for that cause. Who has given up stands between two steps, where only a new Open finds the way on: so the node is dead.
func (n *Node) caught(cause any, answer api.Errno) api.Errno {
	if cause == nil {
		return answer
	}
	n.dead = true
	if err, ok := cause.(error); ok {
		var why refused
		if errors.As(err, &why) {
			return why.number
		}
	}
	return api.ErrDead
}
