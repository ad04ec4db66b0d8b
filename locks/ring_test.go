package locks_test

import (
	"math"
	"slices"
	"testing"

	"custody/locks"
)

func edges(l ...[2]int) [][2]int { return l }

// Edges

func TestEdges(t *testing.T) {
	for _, x := range []struct {
		name            string
		waiting, holder []int
		want            [][2]int
	}{
		{"the chapter's", ints(-1, 0, 5, 1), ints(3, -1), edges([2]int{1, 3})},
		{"none", nil, nil, nil},
		{"no tasks", nil, ints(0, 1), nil},
		{"no mutexes", ints(0, 1, -1), nil, nil},
		{"nobody waits", ints(-1, -1), ints(0, 1), nil},
		{"nobody holds", ints(0, 1), ints(-1, -1), nil},
		{"a holder far below 0", ints(0, 1), ints(math.MinInt, -2), nil},
		{"just behind the end", ints(2), ints(0, 0), nil},
		{"the last place", ints(1), ints(-1, 0), edges([2]int{0, 0})},
		{"far behind the end, far below 0", ints(math.MaxInt, math.MinInt, -2), ints(0, 1), nil},
		{"more tasks than mutexes", ints(0, 0, 0, 1), ints(2), edges([2]int{0, 2}, [2]int{1, 2}, [2]int{2, 2})},
		{"more mutexes than tasks", ints(3), ints(0, 0, 0, 7), edges([2]int{0, 7})},
		{"a holder that is no task", ints(0), ints(math.MaxInt), edges([2]int{0, math.MaxInt})},
		{"its own", ints(0), ints(0), edges([2]int{0, 0})},
		{"by rising tasks", ints(2, 1, 0), ints(0, 1, 2), edges([2]int{0, 2}, [2]int{1, 1}, [2]int{2, 0})},
	} {
		if got := locks.Edges(x.waiting, x.holder); !slices.Equal(got, x.want) {
			t.Errorf("%s: %v, not %v", x.name, got, x.want)
		}
	}
}

// TestEdgesAgainstPairs holds Edges against all pairs of a task and a mutex.
func TestEdgesAgainstPairs(t *testing.T) {
	d := roll(903)
	for range 3000 {
		waiting := some(d, 8, -2, -1, 0, 1, 2, 3, 4, 5, math.MaxInt, math.MinInt)
		holder := some(d, 6, -2, -1, -1, 0, 1, 2, 3, 9, math.MaxInt, math.MinInt)
		var want [][2]int
		for i := range waiting {
			for m := range holder {
				if waiting[i] == m && holder[m] > -1 {
					want = append(want, [2]int{i, holder[m]})
				}
			}
		}
		if got := locks.Edges(waiting, holder); !slices.Equal(got, want) {
			t.Fatalf("Edges(%v, %v) is %v, not %v", waiting, holder, got, want)
		}
	}
}

// Ring

// same tells whether Ring answers this ring; none for no ring.
func same(t *testing.T, name string, l [][2]int, want ...int) {
	t.Helper()
	if got, ok := locks.Ring(l); !slices.Equal(got, want) || ok != (len(want) > 0) {
		t.Errorf("%s: Ring(%v) is %v, %v, not %v", name, l, got, ok, want)
	}
}

func TestRing(t *testing.T) {
	same(t, "the chapter's", edges([2]int{1, 2}, [2]int{2, 3}, [2]int{3, 1}, [2]int{2, 1}), 1, 2)
	same(t, "the chapter's", edges([2]int{4, 4}, [2]int{1, 2}), 4)
	same(t, "the chapter's", edges([2]int{1, 2}, [2]int{2, 3}))
	same(t, "the chapter's", edges([2]int{0, 2}, [2]int{2, 0}, [2]int{0, 1}, [2]int{1, 0}), 0, 1)
	same(t, "the chapter's", edges([2]int{3, 1}, [2]int{1, 2}, [2]int{2, 3}, [2]int{2, 4}, [2]int{4, 1}), 1, 2, 3)
	same(t, "the chapter's", edges([2]int{0, 1}, [2]int{1, 0}), 0, 1)

	same(t, "no edges", nil)
	same(t, "no edges", edges())
	same(t, "one edge", edges([2]int{1, 2}))
	same(t, "an edge to itself", edges([2]int{0, 0}), 0)
	same(t, "an edge to itself, below 0", edges([2]int{-5, -5}), -5)
	same(t, "an edge to itself is the shortest ring", edges([2]int{1, 2}, [2]int{2, 1}, [2]int{1, 1}), 1)
	same(t, "an edge of a higher number to itself", edges([2]int{1, 2}, [2]int{2, 1}, [2]int{2, 2}), 1, 2)
	same(t, "edges to themselves", edges([2]int{3, 3}, [2]int{1, 1}, [2]int{2, 2}), 1)
	same(t, "an edge twice is no ring", edges([2]int{1, 2}, [2]int{1, 2}, [2]int{1, 2}))
	same(t, "edges more than once", edges([2]int{2, 1}, [2]int{1, 2}, [2]int{2, 1}, [2]int{1, 2}, [2]int{1, 2}), 1, 2)
	same(t, "both ends of int", edges([2]int{math.MaxInt, math.MinInt}, [2]int{math.MinInt, math.MaxInt}), math.MinInt, math.MaxInt)
	same(t, "numbers below 0", edges([2]int{3, -1}, [2]int{-1, 3}, [2]int{-1, -2}, [2]int{-2, -1}), -2, -1)
	same(t, "two ways that part and meet are no ring", edges([2]int{1, 2}, [2]int{1, 3}, [2]int{2, 4}, [2]int{3, 4}))
	same(t, "a lower number leads to a ring", edges([2]int{1, 5}, [2]int{5, 6}, [2]int{6, 5}), 5, 6)
	same(t, "a ring leads to a lower number", edges([2]int{5, 6}, [2]int{6, 5}, [2]int{6, 1}, [2]int{1, 0}), 5, 6)
	same(t, "a lower number lies between two rings", edges([2]int{8, 9}, [2]int{9, 8}, [2]int{9, 1}, [2]int{1, 5}, [2]int{5, 6}, [2]int{6, 5}), 5, 6)
	same(t, "the longer ring has the lower number", edges([2]int{5, 6}, [2]int{6, 5}, [2]int{1, 7}, [2]int{7, 8}, [2]int{8, 1}), 1, 7, 8)
	same(t, "rings that touch", edges([2]int{1, 3}, [2]int{3, 2}, [2]int{2, 3}, [2]int{3, 1}), 1, 3)
	same(t, "the first number is on a longer ring", edges([2]int{2, 3}, [2]int{3, 2}, [2]int{3, 4}, [2]int{4, 1}, [2]int{1, 2}), 1, 2, 3, 4)
	same(t, "the shortest isn't met first", edges([2]int{1, 2}, [2]int{2, 3}, [2]int{3, 1}, [2]int{1, 9}, [2]int{9, 1}), 1, 9)
	same(t, "the second number decides", edges([2]int{1, 5}, [2]int{5, 2}, [2]int{2, 1}, [2]int{1, 4}, [2]int{4, 6}, [2]int{6, 1}), 1, 4, 6)
	same(t, "the third number decides", edges([2]int{1, 5}, [2]int{5, 4}, [2]int{4, 2}, [2]int{2, 1}, [2]int{5, 3}, [2]int{3, 9}, [2]int{9, 1}), 1, 5, 3, 9)
	same(t, "the fourth number decides", edges([2]int{1, 5}, [2]int{5, 4}, [2]int{4, 7}, [2]int{7, 1}, [2]int{4, 6}, [2]int{6, 1}), 1, 5, 4, 6)
	same(t, "a lower second number leads a longer way", edges([2]int{1, 2}, [2]int{2, 3}, [2]int{3, 4}, [2]int{4, 1}, [2]int{1, 7}, [2]int{7, 8}, [2]int{8, 1}), 1, 7, 8)
	same(t, "a lower second number leads nowhere", edges([2]int{1, 0}, [2]int{1, 2}, [2]int{2, 0}, [2]int{2, 3}, [2]int{3, 1}), 1, 2, 3)
	same(t, "a lower second number leads to another ring", edges([2]int{1, 3}, [2]int{3, 4}, [2]int{4, 3}, [2]int{1, 5}, [2]int{5, 1}), 1, 5)
}

// rows are all rows of some of these numbers, none twice.
func rows(numbers []int) [][]int {
	var out [][]int
	var more func(row []int)
	more = func(row []int) {
		for _, n := range numbers {
			if !slices.Contains(row, n) {
				longer := append(slices.Clone(row), n)
				out = append(out, longer)
				more(longer)
			}
		}
	}
	more(nil)
	return out
}

// isRing tells whether a row is a ring of these edges.
func isRing(row []int, l [][2]int) bool {
	for i, n := range row {
		if !slices.Contains(l, [2]int{n, row[(i+1)%len(row)]}) {
			return false
		}
	}
	return true
}

// before tells whether a is told ahead of b, both being rings.
func before(a, b []int) bool {
	if a[0] != b[0] {
		return a[0] < b[0]
	}
	if len(a) != len(b) {
		return len(a) < len(b)
	}
	return slices.Compare(a, b) < 0
}

// reckon is the ring that is told, found among all rows of numbers.
func reckon(l [][2]int, all [][]int) []int {
	var best []int
	for _, row := range all {
		if isRing(row, l) && (best == nil || before(row, best)) {
			best = row
		}
	}
	return best
}

// TestRingOfAllSmallWebs: all edges that three numbers can have, and that four can have but to themselves.
func TestRingOfAllSmallWebs(t *testing.T) {
	try := func(numbers []int, l [][2]int) {
		all := rows(numbers)
		for chosen := range 1 << len(l) {
			var some [][2]int
			for i, e := range l {
				if chosen>>i&1 == 1 {
					some = append(some, e)
				}
			}
			want := reckon(some, all)
			if got, ok := locks.Ring(some); !slices.Equal(got, want) || ok != (want != nil) {
				t.Fatalf("Ring(%v) is %v, %v, not %v", some, got, ok, want)
			}
		}
	}
	var three, four [][2]int
	for a := range 4 {
		for b := range 4 {
			if a < 3 && b < 3 {
				three = append(three, [2]int{2 - a, b})
			}
			if a != b {
				four = append(four, [2]int{a, b})
			}
		}
	}
	try(ints(0, 1, 2), three)
	try(ints(0, 1, 2, 3), four)
}

func TestRingAgainstAllRows(t *testing.T) {
	d := roll(904)
	long := 0
	for range 3000 {
		numbers := pick(d, ints(0, 1, 2, 3, 4, 5), ints(-3, -2, -1, 0, 1), ints(math.MinInt, -1, 0, 7, math.MaxInt), ints(9, 8, 7, 6, 5, 4))
		var l [][2]int
		for range d.Below(12) {
			l = append(l, [2]int{pick(d, numbers...), pick(d, numbers...)})
			if n := len(l) - 1; l[n][0] == l[n][1] && d.Below(4) > 0 {
				l = l[:n]
			}
		}
		want := reckon(l, rows(numbers))
		if got, ok := locks.Ring(l); !slices.Equal(got, want) || ok != (want != nil) {
			t.Fatalf("Ring(%v) is %v, %v, not %v", l, got, ok, want)
		}
		if len(want) > 2 {
			long++
		}
	}
	if long < 200 {
		t.Errorf("only %d rings were longer than two", long)
	}
}

// reckonFar is the ring that is told of edges between the numbers from 0 to n - 1, by how far each is from each.
func reckonFar(l [][2]int, n int) []int {
	far := make([][]int, n)
	for i := range far {
		far[i] = slices.Repeat(ints(n+1), n)
	}
	for _, e := range l {
		far[e[0]][e[1]] = 1
	}
	for k := range n {
		for i := range n {
			for j := range n {
				far[i][j] = min(far[i][j], far[i][k]+far[k][j])
			}
		}
	}
	first := -1
	for i := n - 1; i >= 0; i-- {
		if far[i][i] <= n {
			first = i
		}
	}
	if first < 0 {
		return nil
	}
	row := ints(first)
	for left := far[first][first] - 1; left > 0; left-- {
		for to := range n {
			if far[row[len(row)-1]][to] == 1 && far[to][first] == left {
				row = append(row, to)
				break
			}
		}
	}
	return row
}

// TestRingOfGreaterWebs: sparse ones, so that rings are long and some numbers lie between them.
func TestRingOfGreaterWebs(t *testing.T) {
	d := roll(905)
	most, none := 0, 0
	for range 1500 {
		n := 2 + d.Below(30)
		var l [][2]int
		for range d.Below(n*3/2 + 1) {
			e := [2]int{d.Below(n), d.Below(n)}
			if e[0] != e[1] {
				l = append(l, e)
			}
		}
		want := reckonFar(l, n)
		if got, ok := locks.Ring(l); !slices.Equal(got, want) || ok != (want != nil) {
			t.Fatalf("Ring(%v) is %v, %v, not %v", l, got, ok, want)
		}
		most = max(most, len(want))
		if want == nil {
			none++
		}
	}
	if most < 8 || none < 200 {
		t.Errorf("the longest ring has %d numbers; %d have none", most, none)
	}
}

// TestRingHangsOnNoOrder: however the edges are turned about, the ring is the same.
func TestRingHangsOnNoOrder(t *testing.T) {
	d := roll(906)
	for range 300 {
		n := 2 + d.Below(10)
		var l [][2]int
		for range n * 2 {
			l = append(l, [2]int{d.Below(n), d.Below(n)})
		}
		want, ok := locks.Ring(l)
		for range 5 {
			for i := range l {
				j := d.Below(i + 1)
				l[i], l[j] = l[j], l[i]
			}
			if got, again := locks.Ring(append(l, l[0])); !slices.Equal(got, want) || again != ok {
				t.Fatalf("Ring(%v) is %v, and was %v", l, got, want)
			}
		}
	}
}

// TestRingOfMany: as many edges as may come; neither deep ways nor many numbers that lie on no ring make it slow.
func TestRingOfMany(t *testing.T) {
	const n = 200000
	var way [][2]int
	for i := range n {
		way = append(way, [2]int{i, i + 1})
	}
	if got, ok := locks.Ring(way); ok || got != nil {
		t.Errorf("a long way is a ring of %d", len(got))
	}
	whole := append(slices.Clone(way), [2]int{n, 0})
	if got, ok := locks.Ring(whole); !ok || len(got) != n+1 || got[0] != 0 || got[n] != n || !slices.IsSorted(got) {
		t.Errorf("a long ring has %d numbers", len(got))
	}
	between := append(slices.Clone(way), [2]int{n + 2, n + 1}, [2]int{n + 1, n + 2}, [2]int{n + 2, 0}, [2]int{n, n + 3}, [2]int{n + 3, n + 4}, [2]int{n + 4, n + 3})
	if got, ok := locks.Ring(between); !ok || !slices.Equal(got, ints(n+1, n+2)) {
		t.Errorf("of two rings with a long way between them it is one of %d", len(got))
	}
	one := slices.Repeat(edges([2]int{7, 7}), n)
	if got, ok := locks.Ring(one); !ok || !slices.Equal(got, ints(7)) {
		t.Errorf("an edge many times is a ring of %d", len(got))
	}
}
