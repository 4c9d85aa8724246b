package node

import "container/heap"

// wait is what an engine waits for no longer than till a time.
type wait struct {
	time   uint64
	number int // of equal times the one that was set first comes first
	step   int
	round  int
}

// waits are a heap: the one that is over first stands in front. It goes by container/heap.
type waits []wait

func (w waits) Len() int { return len(w) }

func (w waits) Less(x, y int) bool {
	if w[x].time != w[y].time {
		return w[x].time < w[y].time
	}
	return w[x].number < w[y].number
}

func (w waits) Swap(x, y int) { w[x], w[y] = w[y], w[x] }

// Push is for container/heap alone.
func (w *waits) Push(x any) { *w = append(*w, x.(wait)) }

// Pop is for container/heap alone.
func (w *waits) Pop() any {
	last := len(*w) - 1
	x := (*w)[last]
	*w = (*w)[:last]
	return x
}

// takeDue takes away all that are over by then, and tells them, the first ahead.
func (w *waits) takeDue(clock uint64) []wait {
	var due []wait
	for len(*w) > 0 && (*w)[0].time <= clock {
		due = append(due, heap.Pop(w).(wait))
	}
	return due
}

// drop takes the first one of a step and a round away, if there is one.
func (w *waits) drop(step, round int) {
	first := -1
	for k, x := range *w {
		if x.step == step && x.round == round && (first < 0 || w.Less(k, first)) {
			first = k
		}
	}
	if first >= 0 {
		heap.Remove(w, first)
	}
}
