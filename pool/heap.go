package pool

// heap gives back what is pushed into it, the first by its order first.
type heap[T any] struct {
	before func(x, y T) bool
	items  []T // none is before the one at half its place, rounded down: places count from 1
}

func newHeap[T any](before func(x, y T) bool) *heap[T] { return &heap[T]{before: before} }

func (h *heap[T]) count() int { return len(h.items) }

func (h *heap[T]) push(x T) {
	h.items = append(h.items, x)
	for at := len(h.items); at > 1 && h.beforeAt(at, at/2); at /= 2 {
		h.swap(at, at/2)
	}
}

// pop is asked of a heap that is not empty.
func (h *heap[T]) pop() T {
	first := h.items[0]
	last := len(h.items) - 1
	h.items[0] = h.items[last]
	h.items = h.items[:last]
	for at, next := 1, h.below(1); next > 0; at, next = next, h.below(next) {
		h.swap(at, next)
	}
	return first
}

// below is the place that what stands at a place has to sink to: the first one of those right below it, if that is before it; else 0.
func (h *heap[T]) below(at int) int {
	next := 2 * at
	if next < len(h.items) && h.beforeAt(next+1, next) {
		next++
	}
	if next > len(h.items) || !h.beforeAt(next, at) {
		return 0
	}
	return next
}

func (h *heap[T]) beforeAt(at, other int) bool { return h.before(h.items[at-1], h.items[other-1]) }

func (h *heap[T]) swap(at, other int) {
	h.items[at-1], h.items[other-1] = h.items[other-1], h.items[at-1]
}
