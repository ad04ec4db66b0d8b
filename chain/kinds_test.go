package chain_test

import (
	"iter"
	"slices"
	"testing"

	"custody/api"
	"custody/chain"
	"custody/proof"
)

// versions are a chain of values of any type, told by numbers: each value stands for one, the zero value for 0.
type versions interface {
	put(n, v int) error
	at(n int) (int, bool)
	last() (int, int, bool)
	prune(n int) int
	count() int
	all() iter.Seq2[int, int]
}

// told is a chain of a type of values, and what each of them stands for.
type told[V any] struct {
	*chain.Chain[V]
	proof.Values[V]
}

func (c told[V]) put(n, v int) error { return c.Put(n, c.Of(v)) }

func (c told[V]) at(n int) (int, bool) {
	v, ok := c.At(n)
	return c.Number(v), ok
}

func (c told[V]) last() (int, int, bool) {
	v, n, ok := c.Last()
	return c.Number(v), n, ok
}

func (c told[V]) prune(n int) int { return c.Prune(n) }

func (c told[V]) count() int { return c.Len() }

func (c told[V]) all() iter.Seq2[int, int] {
	walk := c.All()
	return func(yield func(int, int) bool) {
		walk(func(n int, v V) bool { return yield(n, c.Number(v)) })
	}
}

// holding is a new chain of such values.
func holding[V any](values proof.Values[V]) versions { return told[V]{chain.New[V](), values} }

// eachType runs a test with chains of each type of values.
func eachType(t *testing.T, test func(t *testing.T, made func() versions)) {
	for _, x := range []struct {
		name string
		made func() versions
	}{
		{"texts", func() versions { return holding(proof.Texts()) }},
		{"numbers", func() versions { return holding(proof.Numbers()) }},
		{"short numbers", func() versions { return holding(proof.Shorts()) }},
		{"structs", func() versions { return holding(proof.Things()) }},
		{"pointers", func() versions { return holding(proof.Pointers()) }},
		{"interfaces", func() versions { return holding(proof.Failures()) }},
		{"lists", func() versions { return holding(proof.Lists()) }},
	} {
		t.Run(x.name, func(t *testing.T) { test(t, x.made) })
	}
}

// pair is a version: its number, and what its value stands for.
type pair struct{ n, v int }

// given is what a walk gives, from its beginning to its end.
func given(walk iter.Seq2[int, int]) []pair {
	var out []pair
	for n, v := range walk {
		out = append(out, pair{n, v})
	}
	return out
}

// put puts versions, of which none is refused.
func put(t *testing.T, c versions, l ...pair) {
	t.Helper()
	for _, x := range l {
		if err := c.put(x.n, x.v); err != nil {
			t.Fatalf("Put(%d, %d) is refused: %v", x.n, x.v, err)
		}
	}
}

// refuses tells that a version can't be put.
func refuses(t *testing.T, c versions, n int) {
	t.Helper()
	if err := c.put(n, 7); !proof.Tells(err, api.ErrArg) {
		t.Errorf("Put(%d) is answered by %v", n, err)
	}
}

// holds tells that a chain holds just these versions: Len, Last and a walk say so.
func holds(t *testing.T, c versions, l ...pair) {
	t.Helper()
	if got := given(c.all()); !slices.Equal(got, l) {
		t.Errorf("a walk gives %v, not %v", got, l)
	}
	if got := c.count(); got != len(l) {
		t.Errorf("Len is %d of %v", got, l)
	}
	var want pair
	if len(l) > 0 {
		want = l[len(l)-1]
	}
	if v, n, ok := c.last(); (pair{n, v}) != want || ok != (len(l) > 0) {
		t.Errorf("Last is %d %d %v of %v", v, n, ok, l)
	}
}

// counts tells that a version with this value counts at each of these numbers.
func counts(t *testing.T, c versions, v int, at ...int) {
	t.Helper()
	for _, n := range at {
		if got, ok := c.at(n); got != v || !ok {
			t.Errorf("At(%d) is %d %v, not %d", n, got, ok, v)
		}
	}
}

// countsNone tells that at none of these numbers a version counts.
func countsNone(t *testing.T, c versions, at ...int) {
	t.Helper()
	for _, n := range at {
		if v, ok := c.at(n); v != 0 || ok {
			t.Errorf("At(%d) is %d %v, and should be none", n, v, ok)
		}
	}
}

// prunes tells that a pruning forgets so many.
func prunes(t *testing.T, c versions, n, want int) {
	t.Helper()
	if got := c.prune(n); got != want {
		t.Errorf("Prune(%d) is %d, not %d", n, got, want)
	}
}
