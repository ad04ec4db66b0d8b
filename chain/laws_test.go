package chain_test

import (
	"math"
	"slices"
	"testing"

	"custody/api"
	"custody/chain"
	"custody/proof"
)

func newNumbers(l ...int) *chain.Chain[int] {
	c := chain.New[int]()
	for _, n := range l {
		c.Put(n, n%500)
	}
	return c
}

// model is a second reckoning of a chain: all of it is looked through for each answer.
type model struct{ list []pair }

func (m *model) put(n, v int) api.Errno {
	if n < 0 || slices.ContainsFunc(m.list, func(x pair) bool { return x.n >= n }) {
		return api.ErrArg
	}
	m.list = append(m.list, pair{n, v})
	return api.OK
}

func (m *model) at(n int) (pair, bool) {
	best, ok := pair{}, false
	for _, x := range m.list {
		if x.n <= n && (!ok || x.n > best.n) {
			best, ok = x, true
		}
	}
	return best, ok
}

func (m *model) prune(n int) int {
	old := len(m.list)
	if keep, ok := m.at(n); ok {
		m.list = slices.DeleteFunc(m.list, func(x pair) bool { return x.n < keep.n })
	}
	return old - len(m.list)
}

// behind is the version with the least number above n.
func (m *model) behind(n int) (pair, bool) {
	best, ok := pair{}, false
	for _, x := range m.list {
		if x.n > n && (!ok || x.n < best.n) {
			best, ok = x, true
		}
	}
	return best, ok
}

// near is a number in the neighbourhood of what a model holds, or far from it.
func near(d *proof.Dice, m *model) int {
	last, _ := m.at(math.MaxInt)
	first, _ := m.behind(-1)
	spread := last.n - first.n
	return proof.Of(d, first.n+d.Below(spread/4+3)-1, first.n+d.Below(max(spread, 0)+2), last.n-d.Below(4), last.n+1+d.Below(3), d.Below(5)-3)
}

// both asks one thing of a chain and of a model, and holds the answers against each other.
func both(t *testing.T, d *proof.Dice, c versions, m *model) {
	t.Helper()
	n, v := near(d, m), d.Below(400)
	switch d.Below(6) {
	case 0:
		if got, want := c.prune(n), m.prune(n); got != want {
			t.Fatalf("Prune(%d) is %d, not %d, and leaves %v", n, got, want, m.list)
		}
	case 1:
		want, there := m.at(n)
		if got, ok := c.at(n); got != want.v || ok != there {
			t.Fatalf("At(%d) is %d %v, not %d %v, of %v", n, got, ok, want.v, there, m.list)
		}
	default:
		if err, want := c.put(n, v), m.put(n, v); !proof.Tells(err, want) {
			t.Fatalf("Put(%d) is %v, not %v, of %v", n, err, want, m.list)
		}
	}
}

// TestAgainstModel holds rows of calls against a second reckoning.
func TestAgainstModel(t *testing.T) {
	d := proof.Dice(100)
	eachType(t, func(t *testing.T, made func() versions) {
		for range 100 {
			c, m := made(), &model{}
			for range 60 {
				both(t, &d, c, m)
			}
			holds(t, c, m.list...)
			for n := -2; n < 12; n++ {
				want, there := m.at(n)
				if v, ok := c.at(n); v != want.v || ok != there {
					t.Fatalf("At(%d) is %d %v of %v", n, v, ok, m.list)
				}
			}
		}
	})
}

// edges are numbers at which small chains are asked.
func edges() []int {
	return []int{math.MinInt, -1, 0, 1, 2, 3, 4, 5, 6, math.MaxInt - 1, math.MaxInt}
}

// eachSmall goes through all chains whose numbers are some of 0 to 5 and the greatest int: their numbers are handed on.
func eachSmall(f func(numbers []int)) {
	of := []int{0, 1, 2, 3, 4, 5, math.MaxInt}
	for which := range 1 << len(of) {
		var numbers []int
		for i, n := range of {
			if which>>i&1 == 1 {
				numbers = append(numbers, n)
			}
		}
		f(numbers)
	}
}

// answer is what At is.
type answer struct {
	v  int
	ok bool
}

func atOf(c *chain.Chain[int], n int) answer {
	v, ok := c.At(n)
	return answer{v, ok}
}

// lastOf is what Last is: the number, the value, and whether there is one.
func lastOf(c *chain.Chain[int]) (int, answer) {
	v, n, ok := c.Last()
	return n, answer{v, ok}
}

func walkOf(c *chain.Chain[int]) []pair { return given(c.All()) }

// TestPruneIsNotSeen is P10.8: of all small chains and all numbers.
func TestPruneIsNotSeen(t *testing.T) {
	eachSmall(func(numbers []int) {
		for _, n := range edges() {
			old, c := newNumbers(numbers...), newNumbers(numbers...)
			c.Prune(n)
			for _, m := range edges() {
				if m >= n && atOf(c, m) != atOf(old, m) {
					t.Fatalf("%v: behind Prune(%d) At(%d) is %v, not %v", numbers, n, m, atOf(c, m), atOf(old, m))
				}
			}
			gotN, gotV := lastOf(c)
			if wantN, wantV := lastOf(old); gotN != wantN || gotV != wantV {
				t.Fatalf("%v: behind Prune(%d) Last is %d %v", numbers, n, gotN, gotV)
			}
			for _, m := range edges() {
				c, old := newNumbers(numbers...), newNumbers(numbers...)
				c.Prune(n)
				if got, want := c.Put(m, 9), old.Put(m, 9); (got == nil) != (want == nil) || got != nil && !proof.Tells(got, api.ErrArg) {
					t.Fatalf("%v: behind Prune(%d) Put(%d) is %v, not %v", numbers, n, m, got, want)
				}
			}
		}
	})
}

// TestPruneTwice is P10.9: of all small chains and all pairs of numbers.
func TestPruneTwice(t *testing.T) {
	eachSmall(func(numbers []int) {
		for _, n := range edges() {
			c := newNumbers(numbers...)
			first := c.Prune(n)
			behind := walkOf(c)
			low := 0
			for _, x := range behind {
				if x.n <= n {
					low++
				}
			}
			if second := c.Prune(n); low > 1 || second != 0 || !slices.Equal(walkOf(c), behind) {
				t.Fatalf("%v: Prune(%d) leaves %v; the second time it forgets %d", numbers, n, behind, second)
			}
			for _, m := range edges() {
				if m < n {
					continue
				}
				c, alone := newNumbers(numbers...), newNumbers(numbers...)
				together := c.Prune(n)
				together += c.Prune(m)
				if want := alone.Prune(m); together != want || together < first || !slices.Equal(walkOf(c), walkOf(alone)) {
					t.Fatalf("%v: Prune(%d) and Prune(%d) forget %d and leave %v, not %d and %v", numbers, n, m, together, walkOf(c), want, walkOf(alone))
				}
			}
		}
	})
}

// TestWhatWasPutLast is P10.10: of rows of Puts, of which many are refused.
func TestWhatWasPutLast(t *testing.T) {
	d := proof.Dice(110)
	for range 500 {
		c := chain.New[int]()
		var taken []pair
		for v := range 20 {
			n := proof.Of(&d, d.Below(6)-2, v+d.Below(9)-4, d.Below(40), math.MaxInt)
			if c.Put(n, v) == nil {
				taken = append(taken, pair{n, v})
			}
		}
		for _, n := range append(edges(), 7, 13, 20, 33, 39, 40) {
			want := answer{}
			for _, x := range taken {
				if x.n <= n {
					want = answer{x.v, true}
				}
			}
			if got := atOf(c, n); got != want {
				t.Fatalf("At(%d) is %v, not %v, of %v", n, got, want, taken)
			}
		}
	}
}

// TestWalkOfOneThatStays is P10.11: of all small chains, pruned with all numbers.
func TestWalkOfOneThatStays(t *testing.T) {
	eachSmall(func(numbers []int) {
		for _, n := range edges() {
			c := newNumbers(numbers...)
			c.Prune(n)
			last, steps := -1, 0
			for m, v := range c.All() {
				if m <= last || atOf(c, m) != (answer{v, true}) {
					t.Fatalf("%v: behind %d the walk gives %d %d, and At is %v", numbers, last, m, v, atOf(c, m))
				}
				last = m
				steps++
			}
			if steps != c.Len() {
				t.Fatalf("%v: of %d the walk gives %d", numbers, c.Len(), steps)
			}
		}
	})
}
