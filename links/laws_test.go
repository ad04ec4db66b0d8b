package links_test

import (
	"math/big"
	"slices"
	"testing"

	"custody/api"
	"custody/links"
	"custody/proof"
)

// reached are all things to which a row of pairs leads from one, whichever way round.
func reached(n int, with [][2]int, from int) []bool {
	met := make([]bool, n)
	met[from] = true
	for row := ints(from); len(row) > 0; row = row[1:] {
		for _, x := range append(with, turned(with)...) {
			if x[0] == row[0] && !met[x[1]] {
				met[x[1]] = true
				row = append(row, x[1])
			}
		}
	}
	return met
}

// TestSameNumberWhereARowLeads is P23.6.
func TestSameNumberWhereARowLeads(t *testing.T) {
	d := proof.Dice(2320)
	for range 1500 {
		n := 1 + d.Below(20)
		l := throwPairs(&d, n, d.Below(n+1))
		got, err := links.Groups(n, l)
		if err != nil || len(got) != n {
			t.Fatalf("Groups(%d, %v) is %v, %v", n, l, got, err)
		}
		for a := range n {
			if got[a] > a || got[a] < 0 || got[got[a]] != got[a] {
				t.Fatalf("Groups(%d, %v) is %v", n, l, got)
			}
			for b, leads := range reached(n, l, a) {
				if leads != (got[a] == got[b]) {
					t.Fatalf("Groups(%d, %v) is %v; a row leads from %d to %d: %v", n, l, got, a, b, leads)
				}
			}
		}
	}
}

// TestGroupsHangOnTheSetOfPairs: neither their order, nor which stands first, nor how often they are there counts.
func TestGroupsHangOnTheSetOfPairs(t *testing.T) {
	d := proof.Dice(2321)
	for range 300 {
		n := 1 + d.Below(api.MaxSeries)
		l := throwPairs(&d, n, d.Below(n+1))
		want, err := links.Groups(n, l)
		more := slices.Concat(l, turned(l), l)
		proof.Shuffle(&d, more)
		grouped(t, n, more, want, err)
	}
}

// isOrder tells whether a row has each thing once, and each edge's first ahead of its second.
func isOrder(n int, before [][2]int, row []int) bool {
	place := slices.Repeat(ints(-1), n)
	for at, x := range row {
		place[x] = at
	}
	if len(row) != n || slices.Contains(place, -1) {
		return false
	}
	return !slices.ContainsFunc(before, func(e [2]int) bool { return place[e[0]] >= place[e[1]] })
}

// isRing tells whether a row is a ring that begins with its least thing.
func isRing(before [][2]int, row []int) bool {
	met := map[int]int{}
	for at, x := range row {
		if met[x]++; met[x] > 1 || x < row[0] || !slices.Contains(before, [2]int{x, row[(at+1)%len(row)]}) {
			return false
		}
	}
	return len(row) > 0
}

// TestOrderOrRing is P23.7, of few things and of many.
func TestOrderOrRing(t *testing.T) {
	d := proof.Dice(2322)
	in, long := 0, 0
	for turn := range 6000 {
		n := d.Below(30)
		if turn%30 == 0 {
			n = d.Below(api.MaxSeries + 1)
		}
		l, priority := proof.Of(&d, throwEdges, throwPairs)(&d, n, d.Below(2*n+1)), throwPriorities(&d, n)
		ring, ok := links.Ring(n, l)
		row, err := links.Order(n, l, priority)
		switch {
		case !ok && err == nil && isOrder(n, l, row) && len(ring) == 0:
			in++
		case ok && sameError(err, api.ErrLoop) && isRing(l, ring) && len(row) == 0:
			if len(ring) > 2 {
				long++
			}
		default:
			t.Fatalf("Order(%d, %v, %v) is %v, %v; Ring is %v, %v", n, l, priority, row, err, ring, ok)
		}
	}
	if in < 1000 || long < 500 {
		t.Errorf("%d had an order, %d a ring of more than two", in, long)
	}
}

// TestOrderIsUrgent is P23.2 of many things: at no place could a thing stand that is more urgent, or as urgent and less.
func TestOrderIsUrgent(t *testing.T) {
	d := proof.Dice(2323)
	for range 300 {
		n := d.Below(120)
		l, priority := throwEdges(&d, n, d.Below(2*n+1)), throwPriorities(&d, n)
		row, err := links.Order(n, l, priority)
		if err != nil {
			continue
		}
		if want := lineUp(n, l, priority); !slices.Equal(row, want) {
			t.Fatalf("Order(%d, %v, %v) is %v, not %v", n, l, priority, row, want)
		}
	}
}

// TestOrderAndRingHangOnTheSetOfEdges: neither their order nor how often they are there counts.
func TestOrderAndRingHangOnTheSetOfEdges(t *testing.T) {
	d := proof.Dice(2324)
	for range 300 {
		n := d.Below(300)
		l, priority := throwEdges(&d, n, d.Below(2*n+1)), throwPriorities(&d, n)
		row, err := links.Order(n, l, priority)
		ring, _ := links.Ring(n, l)
		more := slices.Concat(l, l, l[len(l)/2:])
		proof.Shuffle(&d, more)
		ordered(t, n, more, priority, row, err)
		rings(t, n, more, ring...)
	}
}

// places are, of each notice, the place of its list; none, if one is in no list, or in two.
func places(n int, lists [][]int) []int {
	l := slices.Repeat(ints(-1), n)
	count := 0
	for at, list := range lists {
		for _, x := range list {
			l[x] = at
			count++
		}
	}
	if count != n || slices.Contains(l, -1) {
		return nil
	}
	return l
}

// TestTogetherBeforeBehind is P23.8, of few notices and of many.
func TestTogetherBeforeBehind(t *testing.T) {
	d := proof.Dice(2325)
	right := 0
	for turn := range 5000 {
		l := throwNotices(&d)
		if turn%50 == 0 {
			l = throwMany(&d, 600)
		}
		lists, err := links.Resolve(l)
		if err != nil {
			continue
		}
		right++
		at := places(len(l), lists)
		if at == nil && len(l) > 0 {
			t.Fatalf("Resolve(%+v) is %v", l, lists)
		}
		for x, n := range l {
			for _, k := range n.Links {
				other := slices.IndexFunc(l, func(n api.Notice) bool { return n.Ref == k.Ref })
				if ok := [...]bool{1: at[x] == at[other], 2: at[x] < at[other], 3: at[x] > at[other]}[k.Kind]; !ok {
					t.Fatalf("Resolve(%+v) is %v: %d is tied by %v", l, lists, x, k)
				}
			}
		}
	}
	if right < 2000 {
		t.Errorf("only %d were resolved", right)
	}
}

// throwMany throws up to so many notices, with edges that lead up.
func throwMany(d *proof.Dice, most int) []api.Notice {
	l := many(1 + d.Below(most))
	for range d.Below(len(l)) {
		a, b := d.Below(len(l)), d.Below(len(l))
		a, b = min(a, b), max(a, b)
		switch {
		case b/10 == a/10: // ten belong together
			l[a].Links = append(l[a].Links, with(l[b].Ref))
		case d.Below(2) == 0:
			l[a].Links = append(l[a].Links, before(l[b].Ref))
		default:
			l[b].Links = append(l[b].Links, after(l[a].Ref))
		}
	}
	return l
}

// TestManyNotices is P23.4 of many notices, in groups of up to ten, against the second reckoning.
func TestManyNotices(t *testing.T) {
	d := proof.Dice(2326)
	for range 100 {
		l := throwMany(&d, 100)
		want, fails := resolveAgain(l)
		resolved(t, l, want, fails)
	}
}

// moved are the quantities of each way, together.
func moved(l ...[]api.Leg) map[[4]int]*big.Int {
	sums := map[[4]int]*big.Int{}
	for _, x := range slices.Concat(l...) {
		way := [4]int{x.From, x.To, x.Asset, x.Name}
		if sums[way] == nil {
			sums[way] = big.NewInt(0)
		}
		sums[way].Add(sums[way], big.NewInt(x.Qty))
	}
	return sums
}

// TestQuantitiesTogether is P23.9.
func TestQuantitiesTogether(t *testing.T) {
	d := proof.Dice(2327)
	right := 0
	for range 20000 {
		l := throwLegs(&d)
		got, err := links.Pool(l)
		if err != nil {
			continue
		}
		right++
		sums, want := moved(got), moved(l...)
		if len(got) != len(sums) || len(sums) != len(want) {
			t.Fatalf("Pool(%v) is %v", l, got)
		}
		for way, sum := range want {
			if sums[way] == nil || sums[way].Cmp(sum) != 0 {
				t.Fatalf("Pool(%v) is %v: of %v it is %v, not %v", l, got, way, sums[way], sum)
			}
		}
		pooled(t, [][]api.Leg{got}, got, nil) // what is joined stays as it is
	}
	if right < 5000 {
		t.Errorf("only %d were joined", right)
	}
}
