package links

import "custody/api"

// Resolve are the groups of notices that settle together, in their order: numbers of notices.
func Resolve(l []api.Notice) ([][]int, error) {
	if isTooMuch(l) {
		return nil, api.ErrMany
	}
	places, err := placesOf(l)
	if err != nil {
		return nil, err
	}
	with, before, err := tiesOf(l, places)
	if err != nil {
		return nil, err
	}
	lists, number := gathered(groups(len(l), with))
	row, ok := weave(len(lists), between(before, number)).order(urgency(l, lists))
	if !ok {
		return nil, api.ErrLoop
	}
	out := make([][]int, len(row))
	for at := range len(row) {
		out[at] = lists[row[at]]
	}
	return out, nil
}

// isTooMuch tells whether there are more notices, or links of one, than there may be.
func isTooMuch(l []api.Notice) bool {
	for x := range len(l) {
		if len(l[x].Links) > api.MaxLinks {
			return true
		}
	}
	return len(l) > api.MaxSeries
}

// placesOf are the places of notices, by their references.
func placesOf(l []api.Notice) (map[string]int, error) {
	places := map[string]int{}
	for x := range len(l) {
		if _, ok := places[l[x].Ref]; ok {
			return nil, api.Fault{No: api.ErrTwice, At: x}
		}
		places[l[x].Ref] = x
	}
	return places, nil
}

// tiesOf are the pairs of notices that belong together, and the edges between notices.
func tiesOf(l []api.Notice, places map[string]int) (with, before [][2]int, err error) {
	for x := range len(l) {
		for at := range len(l[x].Links) {
			link := l[x].Links[at]
			other, known := places[link.Ref]
			switch {
			case link.Kind < api.With || link.Kind > api.After:
				return nil, nil, api.Fault{No: api.ErrKind, Line: x, At: at}
			case !known:
				return nil, nil, api.Fault{No: api.ErrLost, Line: x, At: at}
			case link.Kind == api.With:
				with = append(with, [2]int{x, other})
			case link.Kind == api.Before:
				before = append(before, [2]int{x, other})
			default:
				before = append(before, [2]int{other, x})
			}
		}
	}
	return with, before, nil
}

// gathered are the members of each group, the groups by their least members, and of each thing the number of its group there.
func gathered(least []int) (lists [][]int, number []int) {
	number = make([]int, len(least))
	for x := range len(least) {
		if least[x] == x {
			number[x] = len(lists)
			lists = append(lists, nil)
		}
		number[x] = number[least[x]]
		lists[number[x]] = append(lists[number[x]], x)
	}
	return lists, number
}

// between are edges between the groups of things, told by the edges between things.
func between(before [][2]int, number []int) [][2]int {
	edges := make([][2]int, len(before))
	for at := range len(before) {
		for end := range 2 {
			edges[at][end] = number[before[at][end]]
		}
	}
	return edges
}

// urgency is, of each group, the greatest of its members' priorities.
func urgency(l []api.Notice, lists [][]int) []int {
	priority := make([]int, len(lists))
	for group := range len(lists) {
		priority[group] = l[lists[group][0]].Priority
		for _, x := range lists[group] {
			priority[group] = max(priority[group], l[x].Priority)
		}
	}
	return priority
}
