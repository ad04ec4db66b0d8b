package links

import (
	"cmp"
	"slices"
)

// named are the edges that name things.
func named(n int, before [][2]int) [][2]int {
	var edges [][2]int
	for _, e := range before {
		if names(n, e) {
			edges = append(edges, e)
		}
	}
	return edges
}

// renumbered are edges between the places of things among all that have edges, and those things, rising: so there are never many more things than edges, however great their numbers are.
func renumbered(edges [][2]int) ([][2]int, []int) {
	var things []int
	for _, e := range edges {
		things = append(things, e[0], e[1])
	}
	slices.Sort(things)
	things = slices.Compact(things)
	placed := make([][2]int, len(edges))
	for at := range len(edges) {
		for end := range 2 {
			placed[at][end], _ = slices.BinarySearch(things, edges[at][end])
		}
	}
	return placed, things
}

// least is the least thing that stands in a ring: one from which an edge leads to a thing of its own knot.
func (w web) least() (int, bool) {
	knot := w.knots()
	for x := range len(w.next) {
		for _, to := range w.next[x] {
			if knot[to] == knot[x] {
				return x, true
			}
		}
	}
	return 0, false
}

// knots are, of each thing, the number of its knot: two things are in one knot, if edges lead from each to the other, however far round.
// Who goes back along edges, from the thing that a walk has left last of all, meets of the things without a knot just those of its own.
func (w web) knots() []int {
	const none = -1
	knot := slices.Repeat([]int{none}, len(w.back))
	for _, last := range slices.Backward(w.left()) {
		if knot[last] != none {
			continue
		}
		knot[last] = last
		for todo := []int{last}; len(todo) > 0; {
			x := todo[len(todo)-1]
			todo = todo[:len(todo)-1]
			for _, from := range w.back[x] {
				if knot[from] == none {
					knot[from] = last
					todo = append(todo, from)
				}
			}
		}
	}
	return knot
}

// left are all things in the order in which a walk along the edges leaves them, each when it has gone along all its edges.
// Its path is a list, not calls in calls, as it may be as long as there are edges.
func (w web) left() []int {
	var row, path []int
	met := make([]bool, len(w.next))
	gone := make([]int, len(w.next)) // along how many of its edges
	for start := range len(w.next) {
		if !met[start] {
			met[start] = true
			path = append(path, start)
		}
	walk:
		for len(path) > 0 {
			x := path[len(path)-1]
			for gone[x] < len(w.next[x]) {
				to := w.next[x][gone[x]]
				gone[x]++
				if !met[to] {
					met[to] = true
					path = append(path, to)
					continue walk
				}
			}
			row = append(row, x)
			path = path[:len(path)-1]
		}
	}
	return row
}

// ring is the ring that begins with a thing: of those with the fewest things the one that has the lesser thing first. As each is one edge nearer to the end than the one before, none is there twice.
func (w web) ring(first int) []int {
	far := w.far(first)
	nearest := func(x int) int {
		return slices.MinFunc(w.next[x], func(a, b int) int { return cmp.Or(cmp.Compare(far[a], far[b]), cmp.Compare(a, b)) })
	}
	row := []int{first}
	for x := nearest(first); x != first; x = nearest(x) {
		row = append(row, x)
	}
	return row
}

// far is, of each thing, how many edges lead from it to this one, on the shortest way; if there is none, more than there can be.
func (w web) far(end int) []int {
	never := len(w.back)
	far := slices.Repeat([]int{never}, len(w.back))
	far[end] = 0
	row := []int{end}
	for at := 0; at < len(row); at++ {
		for _, from := range w.back[row[at]] {
			if far[from] == never {
				far[from] = far[row[at]] + 1
				row = append(row, from)
			}
		}
	}
	return far
}
