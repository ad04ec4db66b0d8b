package links_test

import (
	"math"
	"slices"
	"strconv"
	"testing"

	"custody/api"
	"custody/proof"
)

// many are so many notices without links, R0 on.
func many(n int) []api.Notice {
	var l []api.Notice
	for x := range n {
		l = append(l, notice("R"+strconv.Itoa(x), 0))
	}
	return l
}

// alone are so many groups of one.
func alone(n int) [][]int {
	var l [][]int
	for x := range n {
		l = append(l, ints(x))
	}
	return l
}

func faultAt(no api.Errno, line, at int) error { return api.Fault{No: no, Line: line, At: at} }

// TestResolveFew is P23.4 of none, of one, and of notices without links.
func TestResolveFew(t *testing.T) {
	resolved(t, nil, nil, nil)
	resolved(t, []api.Notice{}, nil, nil)
	resolved(t, []api.Notice{{}}, alone(1), nil)
	resolved(t, []api.Notice{notice("", 1), notice("A", math.MinInt)}, alone(2), nil)
	resolved(t, []api.Notice{notice("B", -1), notice("A", 0), notice("C", -1)}, [][]int{{1}, {0}, {2}}, nil)
}

// TestResolveTooMuch is P23.4: ErrMany of notices, and of the links of any notice, ahead of all else.
func TestResolveTooMuch(t *testing.T) {
	const n = api.MaxSeries
	resolved(t, many(n), alone(n), nil)
	resolved(t, many(n+1), nil, api.ErrMany)
	resolved(t, append(many(n), notice("R0", 0)), nil, api.ErrMany)
	for at := range 3 {
		row := many(3)
		row[at].Links = slices.Repeat([]api.Link{with(row[at].Ref)}, api.MaxLinks)
		resolved(t, row, alone(3), nil)
		row[at].Links = append(row[at].Links, with(row[at].Ref))
		resolved(t, row, nil, api.ErrMany)
		row[(at+1)%3].Ref = row[at].Ref
		resolved(t, row, nil, api.ErrMany)
		row[(at+2)%3].Links = []api.Link{{Kind: 9, Ref: "?"}, before("R0"), after("R0")}
		resolved(t, row, nil, api.ErrMany)
	}
}

// TestResolveTwice is P23.4: the place of the first notice whose Ref another one ahead of it has, ahead of what is wrong with links.
func TestResolveTwice(t *testing.T) {
	of := func(refs ...string) []api.Notice {
		var l []api.Notice
		for _, ref := range refs {
			l = append(l, notice(ref, 0, api.Link{Kind: 9}, with("?"), before(ref)))
		}
		return l
	}
	resolved(t, of("A", "A"), nil, faultAt(api.ErrTwice, 0, 1))
	resolved(t, of("", "A", ""), nil, faultAt(api.ErrTwice, 0, 2))
	resolved(t, of("A", "B", "B", "A"), nil, faultAt(api.ErrTwice, 0, 2))
	resolved(t, of("A", "B", "C", "A", "C", "B"), nil, faultAt(api.ErrTwice, 0, 3))
	resolved(t, of("A", "A", "A", "A"), nil, faultAt(api.ErrTwice, 0, 1))
	resolved(t, []api.Notice{notice("A", 0), notice("a", 0), notice("A ", 0), notice("", 0)}, alone(4), nil)
}

// TestResolveLinks is P23.4: ErrKind and ErrLost, notice by notice, link by link, of a link the kind first; ahead of a ring.
func TestResolveLinks(t *testing.T) {
	kind := func(n int, ref string) api.Link { return api.Link{Kind: n, Ref: ref} }
	for _, wrong := range []int{0, 4, -1, math.MaxInt, math.MinInt} {
		for line := range 3 {
			for at := range 4 {
				for _, later := range [][]api.Link{nil, {kind(0, "R0")}, {with("?")}, {before("R0"), before("R2")}} {
					for _, of := range []struct {
						link api.Link
						no   api.Errno
					}{{kind(wrong, "R1"), api.ErrKind}, {kind(wrong, "?"), api.ErrKind}, {with("?"), api.ErrLost}, {before("r0"), api.ErrLost}, {after(""), api.ErrLost}} {
						l := many(3)
						for x := range l {
							l[x].Links = []api.Link{with("R0"), before("R2"), after("R0")}
						}
						l[line].Links = slices.Concat(l[line].Links[:at:at], []api.Link{of.link}, later)
						if line < 2 {
							l[line+1].Links = append(l[line+1].Links, later...)
						}
						resolved(t, l, nil, faultAt(of.no, line, at))
					}
				}
			}
		}
	}
}

// TestResolveItself is P23.4: a notice that links to itself.
func TestResolveItself(t *testing.T) {
	resolved(t, []api.Notice{notice("A", 0, with("A"))}, alone(1), nil)
	resolved(t, []api.Notice{notice("A", 0, before("A"))}, nil, api.ErrLoop)
	resolved(t, []api.Notice{notice("A", 0, after("A"))}, nil, api.ErrLoop)
	resolved(t, []api.Notice{notice("B", 0), notice("A", 0, with("A"), with("B"), with("A"))}, [][]int{{0, 1}}, nil)
	resolved(t, []api.Notice{notice("B", 0), notice("A", 0, with("B"), after("A"))}, nil, api.ErrLoop)
}

// TestResolveLoops is P23.4: an edge within a group, and rings of groups of which no notices make one.
func TestResolveLoops(t *testing.T) {
	a, b, c, d := notice("A", 0), notice("B", 0), notice("C", 0), notice("D", 0)
	linked := func(n api.Notice, l ...api.Link) api.Notice {
		n.Links = l
		return n
	}
	for _, tie := range []func(string) api.Link{before, after} {
		resolved(t, []api.Notice{linked(a, with("B"), tie("B")), b}, nil, api.ErrLoop)
		resolved(t, []api.Notice{linked(a, with("B")), linked(b, tie("A"))}, nil, api.ErrLoop)
		resolved(t, []api.Notice{linked(a, tie("C"), with("B")), b, linked(c, with("B"))}, nil, api.ErrLoop)
		resolved(t, []api.Notice{linked(a, tie("B")), linked(b, tie("C")), linked(c, tie("A"))}, nil, api.ErrLoop)
		// A and B, C and D belong together: A to C and D to B is a ring of the two groups.
		resolved(t, []api.Notice{linked(a, with("B"), tie("C")), b, linked(c, with("D")), linked(d, tie("B"))}, nil, api.ErrLoop)
	}
	resolved(t, []api.Notice{linked(a, before("C")), b, linked(c, with("D")), linked(d, before("B"))}, [][]int{{0}, {2, 3}, {1}}, nil)
	resolved(t, []api.Notice{linked(a, after("C")), b, linked(c, with("D")), linked(d, after("B"))}, [][]int{{1}, {2, 3}, {0}}, nil)
	resolved(t, []api.Notice{linked(a, before("B")), linked(b, after("A")), linked(c, before("A"))}, [][]int{{2}, {0}, {1}}, nil)
	resolved(t, []api.Notice{linked(a, before("B")), linked(b, before("A")), c, d}, nil, api.ErrLoop)
}

// TestResolveOrder is P23.4: the greatest priority of a group's members counts, and of equals its least member.
func TestResolveOrder(t *testing.T) {
	resolved(t, []api.Notice{notice("A", 1), notice("B", 2), notice("C", 0, with("D")), notice("D", 3)}, [][]int{{2, 3}, {1}, {0}}, nil)
	resolved(t, []api.Notice{notice("A", 1), notice("B", 3), notice("C", 3, with("D")), notice("D", 0)}, [][]int{{1}, {2, 3}, {0}}, nil)
	resolved(t, []api.Notice{notice("A", -5, with("D")), notice("B", -2), notice("C", -1), notice("D", -2)}, [][]int{{2}, {0, 3}, {1}}, nil)
	resolved(t, []api.Notice{notice("A", math.MinInt, with("C")), notice("B", math.MinInt), notice("C", math.MinInt), notice("D", math.MaxInt, after("B"))}, [][]int{{0, 2}, {1}, {3}}, nil)
	resolved(t, []api.Notice{notice("A", 0, after("B")), notice("B", 0, after("C")), notice("C", 0)}, [][]int{{2}, {1}, {0}}, nil)
	resolved(t, []api.Notice{notice("A", 9, after("B")), notice("B", 1, with("D")), notice("C", 5), notice("D", 2)}, [][]int{{2}, {1, 3}, {0}}, nil)
	// What becomes free comes ahead of what could stand all along.
	resolved(t, []api.Notice{notice("A", 3, before("C")), notice("B", 2), notice("C", 5), notice("D", 1)}, [][]int{{0}, {2}, {1}, {3}}, nil)
	// Members rise, whichever of them has the links.
	resolved(t, []api.Notice{notice("A", 0), notice("B", 0), notice("C", 0, with("E"), with("A")), notice("D", 0, with("B")), notice("E", 0)}, [][]int{{0, 2, 4}, {1, 3}}, nil)
	resolved(t, []api.Notice{notice("A", 0, with("B"), with("B"), with("C")), notice("B", 0, with("A")), notice("C", 0), notice("D", 0, before("C"), before("A"))}, [][]int{{3}, {0, 1, 2}}, nil)
}

// TestResolveLooksAtNothingElse is P23.4: whatever else is in the notices, the answer is the same.
func TestResolveLooksAtNothingElse(t *testing.T) {
	d := proof.Dice(2308)
	for range 500 {
		l := throwNotices(&d)
		want, fails := resolveAgain(l)
		filled := slices.Clone(l)
		for x := range filled {
			filled[x] = throwRest(&d, filled[x])
		}
		resolved(t, filled, want, fails)
	}
}

// throwRest fills in all that isn't looked at.
func throwRest(d *proof.Dice, n api.Notice) api.Notice {
	return api.Notice{
		Ref: n.Ref, Priority: n.Priority, Links: n.Links, Prev: d.Text(1, "AB"), Cancel: d.Below(2) == 0, Receive: d.Below(2) == 0, Pay: d.Below(2) == 0, Trade: d.Number(), Settle: d.Number(),
		Code: api.Isin([]byte(d.Text(12, "AB"))), Qty: int64(d.Number()), Account: d.Text(2, "AB"), Agent: d.Text(1, "AB"), Other: d.Text(1, "AB"), Amount: int64(d.Number()), Currency: d.Text(3, "AB"),
	}
}

const refs = "ABCDEFGH"

// throwNotices throws up to eight notices with a few links, seldom with something wrong; edges mostly lead up.
func throwNotices(d *proof.Dice) []api.Notice {
	names := []byte(refs)
	proof.Shuffle(d, names)
	var l []api.Notice
	for x := range d.Below(len(names) + 1) {
		l = append(l, notice(string(names[x]), proof.Of(d, 0, d.Below(4), d.Number())))
	}
	for range d.Below(len(l) + 2) {
		if len(l) == 0 {
			break
		}
		own, other := d.Below(len(l)), d.Below(len(l))
		link := proof.Of(d, with, before, after)(l[other].Ref)
		// In the order of their names edges make no ring; ties of groups may still make one.
		if isUp := l[own].Ref < l[other].Ref; link.Kind > 1 && isUp != (link.Kind == 2) && d.Below(6) > 0 {
			link.Kind = 5 - link.Kind
		}
		if link.Kind > 1 && own == other && d.Below(6) > 0 {
			link.Kind = 1
		}
		l[own].Links = append(l[own].Links, link)
	}
	if len(l) > 0 && d.Below(10) == 0 {
		twist(d, &l[d.Below(len(l))])
	}
	return l
}

// twist makes something of a notice wrong.
func twist(d *proof.Dice, n *api.Notice) {
	at := d.Below(len(n.Links) + 1)
	switch d.Below(5) {
	case 0:
		n.Ref = d.Text(1, refs)
	case 1:
		n.Links = slices.Insert(n.Links, at, with("?"))
	case 2:
		n.Links = slices.Insert(n.Links, at, api.Link{Kind: d.Number(), Ref: d.Text(1, refs)})
	case 3:
		n.Links = slices.Insert(n.Links, at, slices.Repeat([]api.Link{with(n.Ref)}, 15+d.Below(3))...)
	case 4:
		n.Links = append(n.Links, before(n.Ref))
	}
}

// TestThrownNotices is P23.4 against the second reckoning.
func TestThrownNotices(t *testing.T) {
	d := proof.Dice(2309)
	seen := map[api.Errno]int{}
	fewer := 0
	for range 60000 {
		l := throwNotices(&d)
		want, fails := resolveAgain(l)
		seen[number(fails)]++
		if len(want) > 1 && len(want) < len(l) {
			fewer++
		}
		resolved(t, l, want, fails)
	}
	for no, least := range map[api.Errno]int{api.OK: 20000, api.ErrMany: 300, api.ErrTwice: 300, api.ErrKind: 300, api.ErrLost: 500, api.ErrLoop: 2000} {
		if seen[no] < least {
			t.Errorf("%v only %d times", no, seen[no])
		}
	}
	if fewer < 5000 {
		t.Errorf("only %d times some belong together", fewer)
	}
}

// TestAllTies is P23.4 of three notices with all kinds of ties, or none, between each two, and all priorities of three.
func TestAllTies(t *testing.T) {
	two := [][2]int{{0, 1}, {1, 2}, {2, 0}}
	for ties := range 4 * 4 * 4 {
		for most := range 27 {
			l := []api.Notice{notice("A", most%3), notice("B", most/3%3), notice("C", most/9)}
			for at, x := range two {
				if kind := ties >> (2 * at) & 3; kind > 0 {
					l[x[0]].Links = append(l[x[0]].Links, api.Link{Kind: kind, Ref: l[x[1]].Ref})
				}
			}
			want, fails := resolveAgain(l)
			resolved(t, l, want, fails)
		}
	}
}

// TestResolveMost is P23.4 of the most notices with the most links: each with the one behind it, and all ahead of the ones far behind.
func TestResolveMost(t *testing.T) {
	const n = api.MaxSeries
	l := many(n)
	for x := range l {
		if x%4 < 3 {
			l[x].Links = append(l[x].Links, with(l[x+1].Ref))
		}
		for len(l[x].Links) < api.MaxLinks {
			l[x].Links = append(l[x].Links, after(l[min(x/4*4+4, n-1)].Ref))
		}
	}
	for x := n - 4; x < n; x++ {
		l[x].Links = l[x].Links[:1] // the last group is behind none
	}
	l[n-1].Links = nil
	var want [][]int
	for x := n - 4; x >= 0; x -= 4 {
		want = append(want, ints(x, x+1, x+2, x+3))
	}
	resolved(t, l, want, nil)
	l[n-1].Links = []api.Link{after("R0")}
	resolved(t, l, nil, api.ErrLoop)
}
