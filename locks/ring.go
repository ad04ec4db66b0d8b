package locks

import "slices"

// Edges are who waits for whom, told by the mutex for which each task waits, and by the task that holds each mutex.
func Edges(waiting []int, holder []int) [][2]int {
	var out [][2]int
	for task, m := range waiting {
		if m >= 0 && m < len(holder) && holder[m] >= 0 {
			out = append(out, [2]int{task, holder[m]})
		}
	}
	return out
}

// Ring is a ring of who waits for whom, if there is one: from the least number on that lies on any, the shortest, and of these the one with the least numbers.
func Ring(edges [][2]int) ([]int, bool) {
	w := weave(edges)
	first, ok := w.least()
	if !ok {
		return nil, false
	}
	return w.ring(first), true
}

// least is the least place that lies on a ring: one from which an edge leads to a place of its own knot.
func (w *web) least() (int, bool) {
	knot := w.knots()
	for from, next := range w.next {
		if slices.ContainsFunc(next, func(to int) bool { return knot[to] == knot[from] }) {
			return from, true
		}
	}
	return 0, false
}

// ring is the ring that goes from a place on the shortest way back to it. As each place is one step nearer than the one before, none is there twice.
func (w *web) ring(first int) []int {
	far := w.far(first)
	out := []int{w.numbers[first]}
	for at := w.nearest(first, far); at != first; at = w.nearest(at, far) {
		out = append(out, w.numbers[at])
	}
	return out
}

// nearest is the least of those places that are least far among the ones to which an edge leads from this one.
func (w *web) nearest(from int, far []int) int {
	return slices.MinFunc(w.next[from], func(a, b int) int { return far[a] - far[b] })
}
