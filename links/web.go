package links

import (
	"cmp"
	"slices"
)

// web is things and the edges between them.
type web struct {
	next [][]int // of each thing: to which ones edges lead from it
	back [][]int // and from which ones edges lead to it
}

// weave makes a web of edges that name things.
func weave(n int, edges [][2]int) web {
	w := web{make([][]int, n), make([][]int, n)}
	for _, e := range edges {
		w.next[e[0]] = append(w.next[e[0]], e[1])
		w.back[e[1]] = append(w.back[e[1]], e[0])
	}
	return w
}

// order is all things, each behind those from which edges lead to it, the most urgent first; false, if a ring holds some of them up.
func (w web) order(priority []int) ([]int, bool) {
	n := len(priority)
	urgent, rank := ranked(priority)
	awaited := make([]int, n) // how many of the edges to each thing come from things that don't stand yet
	for x := range n {
		awaited[x] = len(w.back[x])
	}
	const stands = -1
	var row []int
	for at := 0; at < n; { // all that are more urgent than the one at this place stand, or wait
		x := urgent[at]
		at++
		if awaited[x] != 0 {
			continue
		}
		awaited[x] = stands
		row = append(row, x)
		for _, to := range w.next[x] {
			awaited[to]--
			if awaited[to] == 0 {
				at = min(at, rank[to])
			}
		}
	}
	return row, len(row) == n
}

// ranked are all things, the most urgent first and of equals the least number, and the place of each thing there.
func ranked(priority []int) ([]int, []int) {
	n := len(priority)
	urgent, rank := make([]int, n), make([]int, n)
	for x := range n {
		urgent[x] = x
	}
	slices.SortStableFunc(urgent, func(a, b int) int { return cmp.Compare(priority[b], priority[a]) })
	for at := range n {
		rank[urgent[at]] = at
	}
	return urgent, rank
}
