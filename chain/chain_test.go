package chain_test

import (
	"math"
	"slices"
	"testing"

	"custody/api"
	"custody/chain"
	"custody/proof"
)

const (
	most  = math.MaxInt
	least = math.MinInt
)

// TestExamples goes through the chapter's examples, one call behind the other.
func TestExamples(t *testing.T) {
	c := chain.New[string]()
	at := func(n int, want string, there bool) {
		t.Helper()
		if v, ok := c.At(n); v != want || ok != there {
			t.Errorf("At(%d) is %q %v, not %q %v", n, v, ok, want, there)
		}
	}
	at(5, "", false)
	if v, n, ok := c.Last(); v != "" || n != 0 || ok || c.Prune(5) != 0 || c.Len() != 0 {
		t.Errorf("Last of none is %q %d %v; Len is %d", v, n, ok, c.Len())
	}
	for _, x := range []struct {
		n  int
		v  string
		no api.Errno
	}{{-1, "x", api.ErrArg}, {0, "a", api.OK}, {0, "b", api.ErrArg}, {3, "b", api.OK}, {7, "c", api.OK}, {4, "d", api.ErrArg}} {
		if err := c.Put(x.n, x.v); !proof.Tells(err, x.no) {
			t.Errorf("Put(%d, %q) is answered by %v", x.n, x.v, err)
		}
	}
	at(-1, "", false)
	for n, want := range map[int]string{0: "a", 2: "a", 3: "b", 6: "b", 99: "c"} {
		at(n, want, true)
	}
	var walked []any
	for n, v := range c.All() {
		walked = append(walked, n, v)
	}
	if !slices.Equal(walked, []any{0, "a", 3, "b", 7, "c"}) {
		t.Errorf("a walk gives %v", walked)
	}
	if first, second := c.Prune(2), c.Prune(6); first != 0 || second != 1 || c.Len() != 2 {
		t.Errorf("Prune is %d and %d, and leaves %d", first, second, c.Len())
	}
	at(2, "", false)
	at(6, "b", true)
	var numbers []int
	for n := range c.All() {
		numbers = append(numbers, n)
		if n == 3 {
			c.Put(9, "e")
			c.Prune(8)
		}
	}
	if !slices.Equal(numbers, []int{3, 7, 9}) {
		t.Errorf("a walk meanwhile gives %v", numbers)
	}
	if v, n, ok := c.Last(); v != "e" || n != 9 || !ok || c.Len() != 2 {
		t.Errorf("Last is %q %d %v; Len is %d", v, n, ok, c.Len())
	}
}

// TestNew is P10.1: there are no versions, whatever is asked and however often.
func TestNew(t *testing.T) {
	eachType(t, func(t *testing.T, made func() versions) {
		c := made()
		for range 2 {
			holds(t, c)
			countsNone(t, c, least, -1, 0, 1, 5, most)
			for _, n := range []int{least, -1, 0, 1, 5, most} {
				prunes(t, c, n, 0)
			}
		}
		refuses(t, c, -1)
		holds(t, c)
	})
}

// TestTwoChains is P10.1: what is asked of one is not seen of the other.
func TestTwoChains(t *testing.T) {
	eachType(t, func(t *testing.T, made func() versions) {
		a, b := made(), made()
		put(t, a, pair{1, 11}, pair{5, 15})
		holds(t, b)
		countsNone(t, b, 1, 5, most)
		put(t, b, pair{1, 21}, pair{2, 22}, pair{3, 23})
		holds(t, a, pair{1, 11}, pair{5, 15})
		prunes(t, b, most, 2)
		holds(t, a, pair{1, 11}, pair{5, 15})
		counts(t, a, 11, 1, 2, 3, 4)
		prunes(t, a, 4, 0)
		prunes(t, a, 5, 1)
		holds(t, b, pair{3, 23})
		for range a.all() {
			put(t, b, pair{4, 24})
		}
		holds(t, a, pair{5, 15})
		holds(t, b, pair{3, 23}, pair{4, 24})
	})
}

// TestPut is P10.2, and that a refusal changes nothing.
func TestPut(t *testing.T) {
	eachType(t, func(t *testing.T, made func() versions) {
		c := made()
		for _, n := range []int{least, least + 1, -2, -1} {
			refuses(t, c, n)
			holds(t, c)
		}
		put(t, c, pair{0, 10})
		for _, n := range []int{least, -1, 0} {
			refuses(t, c, n)
			holds(t, c, pair{0, 10})
		}
		put(t, c, pair{1, 11}, pair{8, 0}, pair{9, 19})
		for _, n := range []int{least, -1, 0, 1, 2, 5, 7, 8, 9} {
			refuses(t, c, n)
			holds(t, c, pair{0, 10}, pair{1, 11}, pair{8, 0}, pair{9, 19})
		}
		put(t, c, pair{most - 1, 12}, pair{most, 13})
		for _, n := range []int{least, -1, 0, 9, 10, most - 1, most} {
			refuses(t, c, n)
		}
		holds(t, c, pair{0, 10}, pair{1, 11}, pair{8, 0}, pair{9, 19}, pair{most - 1, 12}, pair{most, 13})
	})
}

// TestFirstPut: the first version may have any number from 0 on.
func TestFirstPut(t *testing.T) {
	eachType(t, func(t *testing.T, made func() versions) {
		for _, n := range []int{0, 1, 2, 77, 1 << 32, most - 1, most} {
			c := made()
			put(t, c, pair{n, 5})
			holds(t, c, pair{n, 5})
			refuses(t, c, n)
			refuses(t, c, n-1)
		}
	})
}

// TestPutBehindPrune: what was forgotten can't be put again, nor what lies between.
func TestPutBehindPrune(t *testing.T) {
	eachType(t, func(t *testing.T, made func() versions) {
		c := made()
		put(t, c, pair{0, 10}, pair{2, 12}, pair{4, 14}, pair{6, 16})
		prunes(t, c, 5, 2)
		for n := -1; n <= 6; n++ {
			refuses(t, c, n)
		}
		holds(t, c, pair{4, 14}, pair{6, 16})
		prunes(t, c, most, 1)
		for n := -1; n <= 6; n++ {
			refuses(t, c, n)
		}
		holds(t, c, pair{6, 16})
		put(t, c, pair{7, 17}, pair{most, 18})
		holds(t, c, pair{6, 16}, pair{7, 17}, pair{most, 18})
		counts(t, c, 16, 6)
		counts(t, c, 17, 7, 8, most-1)
		counts(t, c, 18, most)
	})
}

// TestAt is P10.3.
func TestAt(t *testing.T) {
	eachType(t, func(t *testing.T, made func() versions) {
		c := made()
		put(t, c, pair{3, 13})
		countsNone(t, c, least, -1, 0, 1, 2)
		counts(t, c, 13, 3, 4, 100, most)
		put(t, c, pair{4, 14}, pair{9, 0}, pair{12, 22})
		countsNone(t, c, least, least+1, -1, 0, 1, 2)
		counts(t, c, 13, 3)
		counts(t, c, 14, 4, 5, 6, 7, 8)
		counts(t, c, 0, 9, 10, 11)
		counts(t, c, 22, 12, 13, 1000, most-1, most)
		put(t, c, pair{most, 99})
		counts(t, c, 22, 12, most-1)
		counts(t, c, 99, most)
		countsNone(t, c, least, -1, 2)
		c = made()
		put(t, c, pair{0, 10})
		countsNone(t, c, least, -1)
		counts(t, c, 10, 0, 1, most)
	})
}

// TestLast is P10.4: behind each Put and each Prune.
func TestLast(t *testing.T) {
	eachType(t, func(t *testing.T, made func() versions) {
		c := made()
		last := func(n, v int) {
			t.Helper()
			if gotV, gotN, ok := c.last(); gotV != v || gotN != n || !ok {
				t.Errorf("Last is %d %d %v, not %d %d", gotV, gotN, ok, v, n)
			}
		}
		put(t, c, pair{0, 0})
		last(0, 0)
		put(t, c, pair{1, 11})
		last(1, 11)
		refuses(t, c, 1)
		last(1, 11)
		put(t, c, pair{20, 3})
		last(20, 3)
		for _, n := range []int{least, -1, 0, 1, 19, 20, 21, most} {
			c.prune(n)
			last(20, 3)
		}
		put(t, c, pair{most, 4})
		last(most, 4)
		prunes(t, c, most, 1)
		last(most, 4)
	})
}

// TestPrune is P10.5: of one chain, each number for itself.
func TestPrune(t *testing.T) {
	all := []pair{{2, 12}, {5, 0}, {6, 16}, {10, 20}}
	eachType(t, func(t *testing.T, made func() versions) {
		for _, x := range []struct{ n, forgotten int }{
			{least, 0}, {-1, 0}, {0, 0}, {1, 0}, // none counts
			{2, 0}, {3, 0}, {4, 0}, // the least one counts
			{5, 1}, {6, 2}, {7, 2}, {9, 2},
			{10, 3}, {11, 3}, {most - 1, 3}, {most, 3},
		} {
			c := made()
			put(t, c, all...)
			prunes(t, c, x.n, x.forgotten)
			holds(t, c, all[x.forgotten:]...)
			countsNone(t, c, least, all[x.forgotten].n-1)
			prunes(t, c, x.n, 0)
			holds(t, c, all[x.forgotten:]...)
		}
	})
}

// TestPrunesInARow: one behind the other, forwards and back, with versions put between them.
func TestPrunesInARow(t *testing.T) {
	eachType(t, func(t *testing.T, made func() versions) {
		c := made()
		put(t, c, pair{0, 10}, pair{1, 11}, pair{2, 12}, pair{3, 13}, pair{4, 14})
		prunes(t, c, 1, 1)
		prunes(t, c, 0, 0)
		holds(t, c, pair{1, 11}, pair{2, 12}, pair{3, 13}, pair{4, 14})
		prunes(t, c, 3, 2)
		prunes(t, c, 2, 0)
		prunes(t, c, -1, 0)
		holds(t, c, pair{3, 13}, pair{4, 14})
		put(t, c, pair{8, 18}, pair{9, 19})
		prunes(t, c, 7, 1)
		holds(t, c, pair{4, 14}, pair{8, 18}, pair{9, 19})
		counts(t, c, 14, 4, 5, 7)
		prunes(t, c, most, 2)
		prunes(t, c, most, 0)
		holds(t, c, pair{9, 19})
		countsNone(t, c, 0, 4, 8)
		counts(t, c, 19, 9, most)
	})
}

// TestLen is P10.6: behind Put, refused too, and behind Prune.
func TestLen(t *testing.T) {
	eachType(t, func(t *testing.T, made func() versions) {
		c := made()
		is := func(want int) {
			t.Helper()
			if got := c.count(); got != want {
				t.Errorf("Len is %d, not %d", got, want)
			}
		}
		is(0)
		for n := range 100 {
			put(t, c, pair{2 * n, n})
			is(n + 1)
			refuses(t, c, 2*n)
			is(n + 1)
		}
		for n := range 100 {
			prunes(t, c, 2*n-1, 0)
			is(100 - max(n-1, 0))
			c.prune(2 * n)
			is(100 - n)
			c.at(n)
			c.last()
			is(100 - n)
		}
	})
}

// TestAsGoAssigns: versions are handed in and out as Go assigns them, so that lists and pointers lead to the same memory, and arrays don't.
func TestAsGoAssigns(t *testing.T) {
	lists := chain.New[[]int]()
	l := []int{1, 2, 3}
	lists.Put(1, l[:2])
	l[0] = 7
	got, _ := lists.At(1)
	if len(got) != 2 || cap(got) != cap(l) || got[0] != 7 || &got[0] != &l[0] {
		t.Errorf("a list is %v, of the room %d", got, cap(got))
	}
	last, _, _ := lists.Last()
	for _, walked := range lists.All() {
		if &walked[0] != &l[0] || &last[0] != &l[0] {
			t.Error("a list is another one")
		}
	}
	lists.Put(2, nil)
	lists.Put(3, []int{})
	if got, ok := lists.At(2); got != nil || !ok {
		t.Errorf("nil is %#v %v", got, ok)
	}
	if got, ok := lists.At(3); got == nil || len(got) != 0 || !ok {
		t.Errorf("an empty list is %#v %v", got, ok)
	}

	arrays := chain.New[[2]int]()
	a := [2]int{1, 2}
	arrays.Put(0, a)
	a[0] = 9
	if got, ok := arrays.At(0); got != [2]int{1, 2} || !ok {
		t.Errorf("an array is %v %v", got, ok)
	}

	functions := chain.New[func() int]()
	functions.Put(4, func() int { return 44 })
	if f, ok := functions.At(5); !ok || f() != 44 {
		t.Error("a function is another one")
	}
	if f, ok := functions.At(3); f != nil || ok {
		t.Error("there is a function where none counts")
	}

	nothing := chain.New[struct{}]()
	nothing.Put(1, struct{}{})
	nothing.Put(2, struct{}{})
	if _, ok := nothing.At(1); !ok || nothing.Len() != 2 || nothing.Prune(2) != 1 {
		t.Error("versions without a size are none")
	}
}
