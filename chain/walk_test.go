package chain_test

import (
	"iter"
	"math"
	"slices"
	"testing"

	"custody/chain"
	"custody/proof"
)

// five are five versions: 1, 3, 5, 7, 9.
func five() []pair { return []pair{{1, 11}, {3, 13}, {5, 0}, {7, 17}, {9, 19}} }

// TestWalkToItsEnd is P10.7: all versions, rising, each time anew.
func TestWalkToItsEnd(t *testing.T) {
	eachType(t, func(t *testing.T, made func() versions) {
		c := made()
		walk := c.all()
		if got := given(walk); got != nil {
			t.Errorf("of none a walk gives %v", got)
		}
		put(t, c, five()...)
		for range 3 {
			if got := given(walk); !slices.Equal(got, five()) {
				t.Errorf("a walk gives %v", got)
			}
		}
		c.prune(4)
		put(t, c, pair{math.MaxInt, 0})
		if got, want := given(walk), append(five()[1:], pair{math.MaxInt, 0}); !slices.Equal(got, want) {
			t.Errorf("a walk gives %v, not %v", got, want)
		}
		c.prune(math.MaxInt)
		if got := given(walk); !slices.Equal(got, []pair{{math.MaxInt, 0}}) {
			t.Errorf("a walk gives %v", got)
		}
	})
}

// TestWalkEndsEarly is P10.7: who has had enough is given nothing more, and the next walk begins at the beginning.
func TestWalkEndsEarly(t *testing.T) {
	eachType(t, func(t *testing.T, made func() versions) {
		c := made()
		put(t, c, five()...)
		walk := c.all()
		for enough := 1; enough <= 6; enough++ {
			var got []pair
			walk(func(n, v int) bool {
				got = append(got, pair{n, v})
				return len(got) < enough
			})
			if want := five()[:min(enough, 5)]; !slices.Equal(got, want) {
				t.Errorf("who has enough with %d is given %v", enough, got)
			}
			got = nil
			for n, v := range walk {
				if got = append(got, pair{n, v}); len(got) == enough {
					break
				}
			}
			if want := five()[:min(enough, 5)]; !slices.Equal(got, want) {
				t.Errorf("who breaks off behind %d is given %v", enough, got)
			}
		}
		// What is put and pruned with the last one is nothing to one who has had enough.
		calls := 0
		walk(func(n, v int) bool {
			calls++
			c.prune(6)
			put(t, c, pair{10, 20})
			return false
		})
		if calls != 1 {
			t.Errorf("who has had enough is asked %d times", calls)
		}
		holds(t, c, pair{5, 0}, pair{7, 17}, pair{9, 19}, pair{10, 20})
	})
}

// TestWalkOfNobody: a walk that is handed no function gives nothing, and does not panic.
func TestWalkOfNobody(t *testing.T) {
	for _, c := range []*chain.Chain[int]{newNumbers(), newNumbers(1, 2)} {
		old := c.Len()
		if c.All()(nil); c.Len() != old {
			t.Errorf("Len was %d, and is %d", old, c.Len())
		}
	}
}

// TestTwoWalks: two walks of one answer of All, and of two, go on turn by turn and know nothing of one another.
func TestTwoWalks(t *testing.T) {
	eachType(t, func(t *testing.T, made func() versions) {
		c := made()
		put(t, c, five()...)
		walk := c.all()
		for _, other := range []iter.Seq2[int, int]{walk, c.all()} {
			first, stop := iter.Pull2(walk)
			second, stopOther := iter.Pull2(other)
			first()
			for _, want := range five()[1:] {
				n, v, ok := first()
				if (pair{n, v}) != want || !ok {
					t.Errorf("the first walk gives %d %d %v, not %v", n, v, ok, want)
				}
				second()
			}
			if n, v, ok := second(); (pair{n, v}) != five()[4] || !ok {
				t.Errorf("the second walk ends with %d %d %v", n, v, ok)
			}
			if _, _, ok := first(); ok {
				t.Error("the first walk doesn't end")
			}
			stop()
			stopOther()
		}
	})
}

// TestWalksInOneAnother: of each version in a walk there is a whole walk, or a part of one.
func TestWalksInOneAnother(t *testing.T) {
	eachType(t, func(t *testing.T, made func() versions) {
		c := made()
		put(t, c, five()...)
		walk := c.all()
		for _, inner := range []iter.Seq2[int, int]{walk, c.all()} {
			var got, want []pair
			for n, v := range walk {
				got = append(got, pair{n, v})
				got = append(got, given(inner)...)
				for m := range inner {
					if m == n {
						break
					}
					got = append(got, pair{m, n})
				}
			}
			for i, x := range five() {
				want = append(append(want, x), five()...)
				for _, y := range five()[:i] {
					want = append(want, pair{y.n, x.n})
				}
			}
			if !slices.Equal(got, want) {
				t.Errorf("walks in one another give %v, not %v", got, want)
			}
		}
	})
}

// change is what is done when a walk gives a number: it is pruned with prune, if that is 0 or above; then these numbers are put.
type change struct {
	at    int
	prune int
	put   []int
}

// TestWalkMeanwhile is P10.7: what a walk over 1, 3, 5, 7, 9 gives while the chain changes.
func TestWalkMeanwhile(t *testing.T) {
	const not = -1
	for name, x := range map[string]struct {
		changes []change
		want    []int
	}{
		"the one given last is forgotten":           {[]change{{1, 3, nil}}, []int{1, 3, 5, 7, 9}},
		"each one given last is forgotten":          {[]change{{1, 3, nil}, {3, 5, nil}, {5, 7, nil}, {7, 9, nil}}, []int{1, 3, 5, 7, 9}},
		"all ahead of the one given are forgotten":  {[]change{{5, 5, nil}}, []int{1, 3, 5, 7, 9}},
		"some that were to come are forgotten":      {[]change{{1, 6, nil}}, []int{1, 5, 7, 9}},
		"all but the last are forgotten":            {[]change{{1, 100, nil}}, []int{1, 9}},
		"nothing is forgotten that counts":          {[]change{{7, 4, nil}}, []int{1, 3, 5, 7, 9}},
		"nothing counts":                            {[]change{{3, 0, nil}}, []int{1, 3, 5, 7, 9}},
		"one is put with the first":                 {[]change{{1, not, []int{10}}}, []int{1, 3, 5, 7, 9, 10}},
		"some are put with the last":                {[]change{{9, not, []int{10, 20}}}, []int{1, 3, 5, 7, 9, 10, 20}},
		"one is put with each that is put":          {[]change{{9, not, []int{10}}, {10, not, []int{12}}, {12, not, []int{math.MaxInt}}}, []int{1, 3, 5, 7, 9, 10, 12, math.MaxInt}},
		"with the last, all are forgotten, one put": {[]change{{9, 9, []int{11}}}, []int{1, 3, 5, 7, 9, 11}},
		"new ones are put and forgotten again":      {[]change{{3, not, []int{10, 11, 12}}, {5, 11, nil}}, []int{1, 3, 5, 11, 12}},
		"all of it, twice":                          {[]change{{1, 9, []int{10, 11}}, {9, 11, []int{12}}, {11, 12, []int{13, 14, 15}}, {13, 14, nil}}, []int{1, 9, 11, 12, 13, 14, 15}},
	} {
		t.Run(name, func(t *testing.T) {
			eachType(t, func(t *testing.T, made func() versions) {
				c := made()
				put(t, c, five()...)
				var got []int
				for n := range c.all() {
					got = append(got, n)
					for _, x := range x.changes {
						if x.at != n {
							continue
						}
						if x.prune != not {
							c.prune(x.prune)
						}
						for _, m := range x.put {
							put(t, c, pair{m, 8})
						}
					}
				}
				if !slices.Equal(got, x.want) {
					t.Errorf("given %v, not %v", got, x.want)
				}
			})
		})
	}
}

// TestWalkWhileAsked: a chain that is asked everything, and refuses, while a walk goes is no other for that.
func TestWalkWhileAsked(t *testing.T) {
	eachType(t, func(t *testing.T, made func() versions) {
		c := made()
		put(t, c, five()...)
		var got []pair
		for n, v := range c.all() {
			got = append(got, pair{n, v})
			counts(t, c, v, n, n+1)
			holds(t, c, five()...)
			refuses(t, c, n)
			prunes(t, c, 2, 0)
		}
		if !slices.Equal(got, five()) {
			t.Errorf("given %v", got)
		}
	})
}

// TestChangedByAnInnerWalk: a walk goes on rightly when a walk inside it forgets and puts.
func TestChangedByAnInnerWalk(t *testing.T) {
	eachType(t, func(t *testing.T, made func() versions) {
		c := made()
		put(t, c, five()...)
		walk := c.all()
		var outer, inner []int
		for n := range walk {
			outer = append(outer, n)
			for m := range walk {
				inner = append(inner, m)
				if n == 3 && m == 5 {
					c.prune(7)
					put(t, c, pair{12, 1})
				}
			}
		}
		if want := []int{1, 3, 7, 9, 12}; !slices.Equal(outer, want) {
			t.Errorf("the outer walk gives %v, not %v", outer, want)
		}
		if want := []int{1, 3, 5, 7, 9, 1, 3, 5, 7, 9, 12, 7, 9, 12, 7, 9, 12, 7, 9, 12}; !slices.Equal(inner, want) {
			t.Errorf("the inner walks give %v, not %v", inner, want)
		}
	})
}

// TestWalkAgainstModel: a walk during which anything may happen gives each time what a second reckoning says of the moment.
func TestWalkAgainstModel(t *testing.T) {
	d := proof.Dice(107)
	eachType(t, func(t *testing.T, made func() versions) {
		for range 300 {
			c, m := made(), &model{}
			for range d.Below(8) {
				both(t, &d, c, m)
			}
			last, steps := -1, 0
			for n, v := range c.all() {
				if want, ok := m.behind(last); (pair{n, v}) != want || !ok {
					t.Fatalf("behind %d the walk gives %d %d, not %v of %v", last, n, v, want, m.list)
				}
				last = n
				if steps++; steps == 30 {
					break
				}
				for range d.Below(3) {
					both(t, &d, c, m)
				}
			}
			if want, ok := m.behind(last); ok && steps < 30 {
				t.Fatalf("the walk ends behind %d, ahead of %v of %v", last, want, m.list)
			}
		}
	})
}
