package links

// groups are the least members of the groups of things, of which pairs say which belong together.
func groups(n int, with [][2]int) []int {
	// Each thing leads to a lesser one of its group, and the least one to itself.
	lead := make([]int, n)
	for x := range n {
		lead[x] = x
	}
	for _, pair := range with {
		a, b := head(lead, pair[0]), head(lead, pair[1])
		lead[max(a, b)] = min(a, b)
	}
	for x := range n {
		lead[x] = lead[lead[x]] // what is less than x leads to its least one already
	}
	return lead
}

// head is the least thing to which a thing leads. The way there is made shorter for those who come later.
func head(lead []int, x int) int {
	for lead[x] != x {
		lead[x] = lead[lead[x]]
		x = lead[x]
	}
	return x
}
