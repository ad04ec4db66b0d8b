package store_test

import (
	"math"
	"slices"
	"testing"

	"custody/api"
	"custody/proof"
	"custody/store"
)

const (
	most  = math.MaxInt
	least = math.MinInt
)

// stored is a store of values of any type, told by numbers: each value stands for one, the zero value for 0.
type stored interface {
	Shards() int
	put(k api.Key, n, v int) error
	at(k api.Key, n int) (int, bool)
	last(k api.Key) (int, int, bool)
	Keys() []api.Key
	Open(n int) int
	Close(reader int) bool
	Oldest(n int) int
	Prune(k api.Key, n int) int
	Versions() int
}

// told is a store of a type of values, and what each of them stands for.
type told[V any] struct {
	*store.Store[V]
	proof.Values[V]
}

func (s told[V]) put(k api.Key, n, v int) error { return s.Put(k, n, s.Of(v)) }

func (s told[V]) at(k api.Key, n int) (int, bool) {
	v, ok := s.At(k, n)
	return s.Number(v), ok
}

func (s told[V]) last(k api.Key) (int, int, bool) {
	v, n, ok := s.Last(k)
	return s.Number(v), n, ok
}

// holding makes stores of such values.
func holding[V any](values proof.Values[V]) func(shards int) stored {
	return func(shards int) stored { return told[V]{store.New[V](shards), values} }
}

// eachType runs a test with stores of each type of values.
func eachType(t *testing.T, test func(t *testing.T, made func(shards int) stored)) {
	for _, x := range []struct {
		name string
		made func(shards int) stored
	}{
		{"texts", holding(proof.Texts())},
		{"numbers", holding(proof.Numbers())},
		{"short numbers", holding(proof.Shorts())},
		{"structs", holding(proof.Things())},
		{"pointers", holding(proof.Pointers())},
		{"interfaces", holding(proof.Failures())},
		{"lists", holding(proof.Lists())},
	} {
		t.Run(x.name, func(t *testing.T) { test(t, x.made) })
	}
}

// eachStore runs a test with an empty store of each type of values and of several numbers of shards.
func eachStore(t *testing.T, test func(t *testing.T, s stored)) {
	eachType(t, func(t *testing.T, made func(shards int) stored) {
		for _, shards := range []int{0, 1, 2, 7, 64} {
			test(t, made(shards))
		}
	})
}

func key(account, asset int) api.Key { return api.Key{Account: account, Asset: asset} }

// farKeys are keys at the ends of the ranges of account and asset, and about 0, rising.
func farKeys() []api.Key {
	ends := []int{least, least + 1, -2, -1, 0, 1, 2, 65535, 65536, 1 << 40, most - 1, most}
	var l []api.Key
	for _, account := range ends {
		for _, asset := range ends {
			l = append(l, key(account, asset))
		}
	}
	return l
}

// put puts a version that is not refused.
func put(t *testing.T, s stored, k api.Key, n, v int) {
	t.Helper()
	if err := s.put(k, n, v); err != nil {
		t.Fatalf("Put(%v, %d, %d) is refused: %v", k, n, v, err)
	}
}

// refuses tells that a version can't be put.
func refuses(t *testing.T, s stored, k api.Key, numbers ...int) {
	t.Helper()
	for _, n := range numbers {
		if err := s.put(k, n, 7); !proof.Tells(err, api.ErrArg) {
			t.Errorf("Put(%v, %d) is answered by %v", k, n, err)
		}
	}
}

// counts tells that a version with this value counts at each of these numbers.
func counts(t *testing.T, s stored, k api.Key, v int, at ...int) {
	t.Helper()
	for _, n := range at {
		if got, ok := s.at(k, n); got != v || !ok {
			t.Errorf("At(%v, %d) is %d %v, not %d", k, n, got, ok, v)
		}
	}
}

// countsNone tells that at none of these numbers a version counts.
func countsNone(t *testing.T, s stored, k api.Key, at ...int) {
	t.Helper()
	for _, n := range at {
		if v, ok := s.at(k, n); v != 0 || ok {
			t.Errorf("At(%v, %d) is %d %v, and should be none", k, n, v, ok)
		}
	}
}

// lastIs tells what the newest version of a key is.
func lastIs(t *testing.T, s stored, k api.Key, v, n int, there bool) {
	t.Helper()
	if gotV, gotN, ok := s.last(k); gotV != v || gotN != n || ok != there {
		t.Errorf("Last(%v) is %d %d %v, not %d %d %v", k, gotV, gotN, ok, v, n, there)
	}
}

// hasNone tells that a key has no versions.
func hasNone(t *testing.T, s stored, k api.Key) {
	t.Helper()
	countsNone(t, s, k, least, -1, 0, 1, 5, most)
	lastIs(t, s, k, 0, 0, false)
	prunes(t, s, k, most, 0)
}

// keysAre tells which keys have versions.
func keysAre(t *testing.T, s stored, l ...api.Key) {
	t.Helper()
	if got := s.Keys(); !slices.Equal(got, l) {
		t.Errorf("Keys are %v, not %v", got, l)
	}
}

// versionsAre tells how many versions there are.
func versionsAre(t *testing.T, s stored, want int) {
	t.Helper()
	if got := s.Versions(); got != want {
		t.Errorf("there are %d versions, not %d", got, want)
	}
}

// prunes tells that a pruning forgets so many.
func prunes(t *testing.T, s stored, k api.Key, n, want int) {
	t.Helper()
	if got := s.Prune(k, n); got != want {
		t.Errorf("Prune(%v, %d) is %d, not %d", k, n, got, want)
	}
}

// oldestAre tells what Oldest is: pairs of what is asked and what is answered.
func oldestAre(t *testing.T, s stored, l ...[2]int) {
	t.Helper()
	for _, x := range l {
		if got := s.Oldest(x[0]); got != x[1] {
			t.Errorf("Oldest(%d) is %d, not %d", x[0], got, x[1])
		}
	}
}

// opens begins a reader, whose own number is told.
func opens(t *testing.T, s stored, n, reader int) {
	t.Helper()
	if got := s.Open(n); got != reader {
		t.Errorf("Open(%d) is %d, not %d", n, got, reader)
	}
}

// closes tells whether each of these readers could be ended.
func closes(t *testing.T, s stored, want bool, readers ...int) {
	t.Helper()
	for _, r := range readers {
		if got := s.Close(r); got != want {
			t.Errorf("Close(%d) is %v", r, got)
		}
	}
}
