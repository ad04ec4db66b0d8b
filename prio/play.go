package prio

// What a step of Play does: its first number.
const (
	stepPop = iota
	stepPush
	stepPeek
	stepRemove
	stepLen
)

// Play is a heap of pairs, by the first number rising (falling: true: the greatest first), played by steps: an answer for each.
func Play(steps [][3]int, falling bool) [][2]int {
	h := New(byFirst(falling))
	answers := make([][2]int, len(steps))
	for n, step := range steps {
		answers[n] = play(h, step)
	}
	return answers
}

// byFirst is the order of pairs by their first numbers, rising or falling.
func byFirst(falling bool) func(a, b [2]int) bool {
	if falling {
		return func(a, b [2]int) bool { return a[0] > b[0] }
	}
	return func(a, b [2]int) bool { return a[0] < b[0] }
}

// play does one step: its answer.
func play(h *Heap[[2]int], step [3]int) [2]int {
	switch step[0] {
	case stepPop:
		return told(h.Pop())
	case stepPush:
		pair := [2]int{step[1], step[2]}
		h.Push(pair)
		return pair
	case stepPeek:
		return told(h.Peek())
	case stepRemove:
		return told(h.Remove(func(pair [2]int) bool { return pair[1] == step[1] }))
	case stepLen:
		return [2]int{h.Len(), 0}
	}
	return told([2]int{}, false)
}

// told is a pair, if there is one, as Play answers it.
func told(pair [2]int, there bool) [2]int {
	if !there {
		return [2]int{-1, -1}
	}
	return pair
}
