package prio

// spare is how many places of a heap may lie empty, however few things there are: a heap that is filled and emptied in turns doesn't ask for room each time then.
const spare = 64

// takeOut takes out the thing at a place, where the last one comes in its stead.
func (h *Heap[T]) takeOut(at int) T {
	thing, last := h.entries[at].thing, len(h.entries)-1
	h.entries[at] = h.entries[last]
	h.entries[last] = entry[T]{} // its place would keep the thing else
	h.entries = h.entries[:last]
	if at < last {
		h.sink(h.rise(at))
	}
	if cap(h.entries) > 4*last+spare {
		h.entries = h.copied()
	}
	return thing
}

// copied are the entries in memory of their own, with no more room than they need.
func (h *Heap[T]) copied() []entry[T] {
	return append([]entry[T](nil), h.entries...)
}

// rise brings the entry at a place up, past all those that it stands ahead of: where it is then.
func (h *Heap[T]) rise(at int) int {
	for at > 0 {
		above := (at - 1) / 2
		if !h.ahead(h.entries[at], h.entries[above]) {
			break
		}
		h.swap(at, above)
		at = above
	}
	return at
}

// sink brings the entry at a place down, past all those that stand ahead of it.
func (h *Heap[T]) sink(at int) {
	for {
		first := h.firstOf(at, 2*at+1, 2*at+2)
		if first == at {
			return
		}
		h.swap(at, first)
		at = first
	}
}

// firstOf is the place whose entry stands ahead of those at the others; places behind the end have none.
func (h *Heap[T]) firstOf(first int, others ...int) int {
	for _, at := range others {
		if at < len(h.entries) && h.ahead(h.entries[at], h.entries[first]) {
			first = at
		}
	}
	return first
}

func (h *Heap[T]) swap(a, b int) { h.entries[a], h.entries[b] = h.entries[b], h.entries[a] }
