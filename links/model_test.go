package links_test

import (
	"math/big"
	"slices"

	"custody/api"
	"custody/proof"
)

// The second reckoning: the chapter's words, gone through again and again till nothing changes, and all rows tried.

// lostAgain is the first pair that doesn't name things.
func lostAgain(n int, l [][2]int) error {
	for at, x := range l {
		if proof.Outside(x[0], 0, n-1) || proof.Outside(x[1], 0, n-1) {
			return api.Fault{No: api.ErrLost, At: at}
		}
	}
	return nil
}

func countAgain(n int) error {
	if n < 0 {
		return api.ErrArg
	}
	if n > 4096 {
		return api.ErrMany
	}
	return nil
}

func groupsAgain(n int, with [][2]int) ([]int, error) {
	if err := countAgain(n); err != nil {
		return nil, err
	}
	if err := lostAgain(n, with); err != nil {
		return nil, err
	}
	return spread(n, with), nil
}

// spread hands the lesser number on to the other one of each pair, as long as that changes one.
func spread(n int, with [][2]int) []int {
	l := upTo(n)
	for again := true; again; {
		again = false
		for _, x := range with {
			if a, b := l[x[0]], l[x[1]]; a != b {
				l[x[0]], l[x[1]], again = min(a, b), min(a, b), true
			}
		}
	}
	return l
}

func orderAgain(n int, before [][2]int, priority []int) ([]int, error) {
	if err := countAgain(n); err != nil {
		return nil, err
	}
	if len(priority) < n {
		return nil, api.ErrShort
	}
	if len(priority) > n {
		return nil, api.ErrLong
	}
	if err := lostAgain(n, before); err != nil {
		return nil, err
	}
	if _, ok := ringAgain(n, before); ok {
		return nil, api.ErrLoop
	}
	return lineUp(n, before, priority), nil
}

// lineUp puts at each place the best of the things that may stand there.
func lineUp(n int, before [][2]int, priority []int) []int {
	var row []int
	for len(row) < n {
		best := -1
		for x := range n {
			waits := slices.ContainsFunc(before, func(e [2]int) bool { return e[1] == x && !slices.Contains(row, e[0]) })
			if !waits && !slices.Contains(row, x) && (best < 0 || priority[x] > priority[best]) {
				best = x
			}
		}
		row = append(row, best)
	}
	return row
}

// ringAgain tries all rows of things, the shorter ones first: those that begin with 0, with 1 and so on.
func ringAgain(n int, before [][2]int) ([]int, bool) {
	for first := range n {
		for count := range n {
			if row := ringOf(n, before, []int{first}, count); row != nil {
				return row, true
			}
		}
	}
	return nil, false
}

// ringOf is the first ring that begins with a row, and so many more things.
func ringOf(n int, before [][2]int, row []int, more int) []int {
	leads := func(to int) bool { return slices.Contains(before, [2]int{row[len(row)-1], to}) }
	if more == 0 {
		if leads(row[0]) {
			return row
		}
		return nil
	}
	for x := range n {
		if slices.Contains(row, x) || !leads(x) {
			continue
		}
		if l := ringOf(n, before, append(slices.Clone(row), x), more-1); l != nil {
			return l
		}
	}
	return nil
}

func resolveAgain(l []api.Notice) ([][]int, error) {
	if len(l) > 4096 || slices.ContainsFunc(l, func(n api.Notice) bool { return len(n.Links) > 16 }) {
		return nil, api.ErrMany
	}
	find := func(ref string) int {
		return slices.IndexFunc(l, func(n api.Notice) bool { return n.Ref == ref })
	}
	for at, n := range l {
		if find(n.Ref) != at {
			return nil, api.Fault{No: api.ErrTwice, At: at}
		}
	}
	var with, before [][2]int
	for x, n := range l {
		for at, k := range n.Links {
			other := find(k.Ref)
			if proof.Outside(k.Kind, 1, 3) {
				return nil, api.Fault{No: api.ErrKind, Line: x, At: at}
			}
			if other < 0 {
				return nil, api.Fault{No: api.ErrLost, Line: x, At: at}
			}
			switch k.Kind {
			case 1:
				with = append(with, [2]int{other, x})
			case 2:
				before = append(before, [2]int{x, other})
			case 3:
				before = append(before, [2]int{other, x})
			}
		}
	}
	return linedUp(l, spread(len(l), with), before)
}

// linedUp are the groups of notices in their order. A group has the number of its least member.
func linedUp(l []api.Notice, least []int, before [][2]int) ([][]int, error) {
	var out [][]int
	stands := make([]bool, len(l))
	for left := len(l); left > 0; {
		best, urgent := -1, 0
		for group := range l {
			waits := slices.ContainsFunc(before, func(e [2]int) bool { return least[e[1]] == group && !stands[least[e[0]]] })
			if stands[group] || waits || least[group] != group {
				continue
			}
			for _, x := range members(least, group) {
				if best < 0 || l[x].Priority > urgent {
					best, urgent = group, l[x].Priority
				}
			}
		}
		if best < 0 {
			return nil, api.ErrLoop
		}
		stands[best] = true
		out = append(out, members(least, best))
		left -= len(out[len(out)-1])
	}
	return out, nil
}

func members(least []int, group int) []int {
	return slices.DeleteFunc(upTo(len(least)), func(x int) bool { return least[x] != group })
}

func poolAgain(l [][]api.Leg) ([]api.Leg, error) {
	legs := slices.Concat(l...)
	if len(legs) == 0 {
		return nil, api.ErrShort
	}
	var out []api.Leg
	for at, x := range legs {
		if x.Qty <= 0 {
			return nil, api.ErrAmount
		}
		sum, first := big.NewInt(0), true
		for place, y := range legs[:at+1] {
			if sameWay(x, y) {
				sum.Add(sum, big.NewInt(y.Qty))
				first = first && place == at
			}
		}
		if !sum.IsInt64() {
			return nil, api.ErrOver
		}
		if first {
			out = append(out, x)
		}
		for place, y := range out {
			if sameWay(x, y) {
				out[place].Qty = sum.Int64()
			}
		}
	}
	if len(out) > 4 {
		return nil, api.ErrMany
	}
	return out, nil
}

func sameWay(a, b api.Leg) bool {
	return [4]int{a.From, a.To, a.Asset, a.Name} == [4]int{b.From, b.To, b.Asset, b.Name}
}
