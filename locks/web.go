package locks

import (
	"cmp"
	"maps"
	"slices"
)

// web is who waits for whom. Numbers are told by their places among all of them, which rise as the numbers do, so that any numbers may be there.
type web struct {
	numbers []int
	next    [][]int // to which places edges lead from each, rising
	back    [][]int // from which places edges lead to each
}

// weave makes a web of edges, each of them once.
func weave(edges [][2]int) *web {
	once := map[[2]int]struct{}{}
	var ends []int
	for _, e := range edges {
		once[e] = struct{}{}
		ends = append(ends, e[0], e[1])
	}
	w := &web{numbers: Set(ends)}
	w.next = make([][]int, len(w.numbers))
	w.back = make([][]int, len(w.numbers))
	for _, e := range slices.SortedFunc(maps.Keys(once), rising) {
		from, to := w.place(e[0]), w.place(e[1])
		w.next[from] = append(w.next[from], to)
		w.back[to] = append(w.back[to], from)
	}
	return w
}

func rising(a, b [2]int) int {
	return cmp.Or(cmp.Compare(a[0], b[0]), cmp.Compare(a[1], b[1]))
}

func (w *web) place(number int) int {
	at, _ := slices.BinarySearch(w.numbers, number)
	return at
}

// far is, of each place, how many edges lead from it to this one on the shortest way; more than there can be, if there is none.
func (w *web) far(to int) []int {
	never := len(w.numbers)
	out := slices.Repeat([]int{never}, len(w.numbers))
	out[to] = 0
	for row := []int{to}; len(row) > 0; row = row[1:] {
		for _, from := range w.back[row[0]] {
			if out[from] == never {
				out[from] = out[row[0]] + 1
				row = append(row, from)
			}
		}
	}
	return out
}

// knots are, of each place, the number of its knot: two places are of one knot, if edges lead from each to the other.
// A walk against the edges, from the place that was left last on, meets of the places that have no knot yet just those of its own.
func (w *web) knots() []int {
	const none = -1
	out := slices.Repeat([]int{none}, len(w.numbers))
	for _, root := range slices.Backward(w.left()) {
		if out[root] != none {
			continue
		}
		out[root] = root
		for todo := []int{root}; len(todo) > 0; {
			at := todo[len(todo)-1]
			todo = todo[:len(todo)-1]
			for _, from := range w.back[at] {
				if out[from] == none {
					out[from] = root
					todo = append(todo, from)
				}
			}
		}
	}
	return out
}

// left are all places in the order in which a walk leaves them, which leaves a place when it has followed all edges from it.
// The walk's path is a list, and not the calls of a function in itself, as it may be as long as there are numbers.
func (w *web) left() []int {
	var out []int
	met := make([]bool, len(w.numbers))
	followed := make([]int, len(w.numbers)) // how many of its edges
	for start := range w.numbers {
		var path []int
		if !met[start] {
			met[start] = true
			path = append(path, start)
		}
		for len(path) > 0 {
			at := path[len(path)-1]
			if followed[at] == len(w.next[at]) {
				out = append(out, at)
				path = path[:len(path)-1]
				continue
			}
			to := w.next[at][followed[at]]
			followed[at]++
			if !met[to] {
				met[to] = true
				path = append(path, to)
			}
		}
	}
	return out
}
