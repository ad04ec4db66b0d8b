package store_test

import (
	"runtime"
	"slices"
	"testing"
	"weak"

	"custody/api"
	"custody/proof"
	"custody/store"
)

// TestKeysAreNewMemory is R4: who asked may write over the answer and its spare room.
func TestKeysAreNewMemory(t *testing.T) {
	eachStore(t, func(t *testing.T, s stored) {
		keys := farKeys()
		for i, k := range keys {
			put(t, s, k, i, i)
		}
		first, second := s.Keys(), s.Keys()
		whole := proof.Whole(first)
		for i := range whole {
			whole[i] = key(7, 7)
		}
		if !slices.Equal(second, keys) {
			t.Errorf("two answers share memory: %v", second)
		}
		keysAre(t, s, keys...)
		for i, k := range keys {
			lastIs(t, s, k, i, i, true)
		}
		hasNone(t, s, key(7, 7))
	})
}

// TestValuesAreHandedOn: a value that leads elsewhere leads there still, as Go assigns it.
func TestValuesAreHandedOn(t *testing.T) {
	s, l := store.New[[]int](3), []int{1, 2}
	s.Put(key(0, 0), 0, l)
	l[0] = 9
	if v, ok := s.At(key(0, 0), 5); !ok || &v[0] != &l[0] || v[0] != 9 {
		t.Errorf("At is %v %v", v, ok)
	}
	if v, _, ok := s.Last(key(0, 0)); !ok || &v[0] != &l[0] {
		t.Errorf("Last is %v %v", v, ok)
	}
}

// big is a value of which it can be seen whether it is still kept.
type big struct{ room [64]int }

// putBig puts a version to which nothing leads but the store, if it takes it.
func putBig(s *store.Store[*big], k api.Key, n int) weak.Pointer[big] {
	v := &big{}
	s.Put(k, n, v)
	return weak.Make(v)
}

// TestForgottenIsNotKept: what is refused or forgotten is kept no more, what a reader may see is.
func TestForgottenIsNotKept(t *testing.T) {
	s, k := store.New[*big](8), key(4, 2)
	var values []weak.Pointer[big]
	for n := range 10 {
		values = append(values, putBig(s, k, n))
	}
	refused := []weak.Pointer[big]{putBig(s, k, 9), putBig(s, key(5, 5), -1)}
	reader := s.Open(3)
	kept := func() int {
		runtime.GC()
		count := 0
		for _, v := range append(values, refused...) {
			if v.Value() != nil {
				count++
			}
		}
		return count
	}
	if got := kept(); got != 10 {
		t.Errorf("%d values are kept of ten", got)
	}
	s.Prune(k, 8)
	if got := kept(); got != 7 || values[3].Value() == nil {
		t.Errorf("%d values are kept for a reader of 3", got)
	}
	s.Close(reader)
	s.Prune(k, 8)
	if got := kept(); got != 2 || values[8].Value() == nil || values[9].Value() == nil {
		t.Errorf("%d values are kept from 8 on", got)
	}
	runtime.KeepAlive(s)
}

// TestLookingKeepsNothing: to look at keys without versions leaves nothing behind.
func TestLookingKeepsNothing(t *testing.T) {
	s := store.New[int](64)
	old := inUse()
	for i := range 200000 {
		k := key(i, -i)
		s.At(k, i)
		s.Last(k)
		s.Prune(k, i)
		s.Put(k, -1, i)
	}
	if more := inUse() - old; more > 1<<20 || s.Versions() != 0 || len(s.Keys()) != 0 {
		t.Errorf("%d bytes are kept of keys without versions", more)
	}
	runtime.KeepAlive(s)
}

// inUse is how many bytes are kept.
func inUse() int {
	runtime.GC()
	var m runtime.MemStats
	runtime.ReadMemStats(&m)
	return int(m.HeapAlloc)
}

// TestManyReaders: prunings and readers in great numbers, of which each begins behind the other.
func TestManyReaders(t *testing.T) {
	const width, count = 20000, 100000
	s, k := store.New[int](5), key(1, 0)
	for n := range count {
		s.Put(k, n, n)
		if got := s.Open(n); got != n+1 {
			t.Fatalf("Open(%d) is %d", n, got)
		}
		first := max(n-width, 0)
		if n > width && !s.Close(first) {
			t.Fatalf("the reader of %d can't be ended", first-1)
		}
		s.Prune(k, n)
		if got := s.Oldest(n); got != first || s.Versions() != n-first+1 {
			t.Fatalf("behind %d the oldest is %d, and there are %d versions", n, got, s.Versions())
		}
	}
}

// TestManyKeys: of many keys each has its own versions, and all of them are told, rising.
func TestManyKeys(t *testing.T) {
	const accounts, assets = 300, 200
	s := store.New[api.Key](64)
	for asset := assets - 1; asset >= 0; asset-- {
		for account := accounts - 2; account >= -1; account-- {
			for n := range 2 {
				s.Put(key(account, asset), n, key(account+n, asset))
			}
		}
	}
	keys := s.Keys()
	if len(keys) != accounts*assets || s.Versions() != 2*len(keys) {
		t.Fatalf("there are %d keys, %d versions", len(keys), s.Versions())
	}
	for i, k := range keys {
		if want := key(i/assets-1, i%assets); k != want {
			t.Fatalf("the key at %d is %v, not %v", i, k, want)
		}
		v, ok := s.At(k, 0)
		last, n, there := s.Last(k)
		if v != k || !ok || last != key(k.Account+1, k.Asset) || n != 1 || !there {
			t.Fatalf("of %v there are %v %v and %v %d %v", k, v, ok, last, n, there)
		}
	}
}
