package store_test

import (
	"slices"
	"testing"

	"custody/api"
	"custody/proof"
	"custody/store"
)

// TestExamples goes through the chapter's examples, one call behind the other.
func TestExamples(t *testing.T) {
	s, k := store.New[string](4), key(3, 1)
	at := func(n int, want string, there bool) {
		t.Helper()
		if v, ok := s.At(k, n); v != want || ok != there {
			t.Errorf("At(%d) is %q %v, not %q %v", n, v, ok, want, there)
		}
	}
	is := func(what string, got, want any) {
		t.Helper()
		if got != want {
			t.Errorf("%s is %v, not %v", what, got, want)
		}
	}
	is("Shards", s.Shards(), 4)
	at(9, "", false)
	is("the number of keys", len(s.Keys()), 0)
	for _, x := range []struct {
		n  int
		v  string
		no api.Errno
	}{{1, "a", api.OK}, {3, "b", api.OK}, {3, "c", api.ErrArg}, {5, "d", api.OK}} {
		if err := s.Put(k, x.n, x.v); !proof.Tells(err, x.no) {
			t.Errorf("Put(%d, %q) is answered by %v", x.n, x.v, err)
		}
	}
	is("Open(2)", s.Open(2), 1)
	is("Open(9)", s.Open(9), 2)
	is("Oldest(7)", s.Oldest(7), 2)
	is("Oldest(1)", s.Oldest(1), 1)
	is("Prune(5)", s.Prune(k, 5), 0)
	at(2, "a", true)
	is("Versions", s.Versions(), 3)
	is("Close(1)", s.Close(1), true)
	is("Close(1) again", s.Close(1), false)
	is("Close(3)", s.Close(3), false)
	is("Oldest(7)", s.Oldest(7), 7)
	is("Prune(4)", s.Prune(k, 4), 1)
	at(2, "", false)
	if v, n, ok := s.Last(k); v != "d" || n != 5 || !ok {
		t.Errorf("Last is %q %d %v", v, n, ok)
	}
	is("Versions", s.Versions(), 2)
}

// TestNew is P11.2 and P11.3: a store without versions, asked for everything, is as empty as it was.
func TestNew(t *testing.T) {
	eachStore(t, func(t *testing.T, s stored) {
		for range 2 {
			keysAre(t, s)
			versionsAre(t, s, 0)
			oldestAre(t, s, [2]int{least, least}, [2]int{-1, -1}, [2]int{0, 0}, [2]int{9, 9}, [2]int{most, most})
			closes(t, s, false, least, -1, 0, 1, 2, most)
			for _, k := range farKeys() {
				hasNone(t, s, k)
			}
		}
	})
}

// TestTwoStores: what is asked of one is not seen of the other.
func TestTwoStores(t *testing.T) {
	eachType(t, func(t *testing.T, made func(shards int) stored) {
		a, b, k := made(4), made(4), key(1, 1)
		put(t, a, k, 1, 11)
		put(t, a, k, 2, 12)
		opens(t, a, 1, 1)
		hasNone(t, b, k)
		keysAre(t, b)
		versionsAre(t, b, 0)
		closes(t, b, false, 1)
		oldestAre(t, b, [2]int{5, 5})
		put(t, b, k, 0, 20)
		put(t, b, k, 2, 22)
		opens(t, b, 7, 1)
		prunes(t, b, k, 2, 1)
		counts(t, a, k, 11, 1)
		counts(t, a, k, 12, 2, most)
		countsNone(t, a, k, 0)
		closes(t, b, true, 1)
		oldestAre(t, a, [2]int{5, 1})
		versionsAre(t, a, 2)
	})
}

// TestPut is P11.3: what a key's chain takes and refuses, whatever other keys have.
func TestPut(t *testing.T) {
	eachStore(t, func(t *testing.T, s stored) {
		a, b := key(1, 2), key(2, 1)
		refuses(t, s, a, least, -2, -1)
		keysAre(t, s)
		versionsAre(t, s, 0)
		hasNone(t, s, a)
		put(t, s, a, 5, 15)
		refuses(t, s, a, least, -1, 0, 4, 5)
		put(t, s, b, 0, 20)
		put(t, s, b, 3, 0)
		refuses(t, s, b, least, -1, 0, 1, 2, 3)
		put(t, s, a, 6, 16)
		put(t, s, a, most, 17)
		refuses(t, s, a, 6, 7, most-1, most)
		put(t, s, b, 4, 24)
		lastIs(t, s, a, 17, most, true)
		lastIs(t, s, b, 24, 4, true)
		counts(t, s, a, 15, 5)
		counts(t, s, a, 16, 6, 7, most-1)
		counts(t, s, a, 17, most)
		countsNone(t, s, a, least, -1, 0, 4)
		counts(t, s, b, 20, 0, 1, 2)
		counts(t, s, b, 0, 3)
		counts(t, s, b, 24, 4, 5, most)
		countsNone(t, s, b, least, -1)
		versionsAre(t, s, 6)
		keysAre(t, s, a, b)
	})
}

// TestFirstPut: a key's first version may have any number from 0 on; one that was refused leaves nothing behind.
func TestFirstPut(t *testing.T) {
	eachStore(t, func(t *testing.T, s stored) {
		for i, n := range []int{0, 1, 77, 1 << 40, most} {
			k := key(i, -i)
			refuses(t, s, k, -1, least)
			hasNone(t, s, k)
			put(t, s, k, n, 0)
			lastIs(t, s, k, 0, n, true)
			refuses(t, s, k, n)
			versionsAre(t, s, i+1)
		}
	})
}

// TestPutBehindPrune: what was forgotten can't be put again.
func TestPutBehindPrune(t *testing.T) {
	eachStore(t, func(t *testing.T, s stored) {
		k := key(-1, 8)
		for n := range 5 {
			put(t, s, k, 2*n, 10+n)
		}
		prunes(t, s, k, 7, 3)
		for n := -1; n <= 8; n++ {
			refuses(t, s, k, n)
		}
		put(t, s, k, 9, 19)
		countsNone(t, s, k, 0, 5)
		counts(t, s, k, 13, 6, 7)
		counts(t, s, k, 14, 8)
		counts(t, s, k, 19, 9)
	})
}

// TestEachKeyForItself: keys with one account, with one asset, and such whose parts are changed about, each hold their own.
func TestEachKeyForItself(t *testing.T) {
	eachStore(t, func(t *testing.T, s stored) {
		keys := farKeys()
		for i, k := range keys {
			put(t, s, k, i, i)
			put(t, s, k, i+1, 500+i)
		}
		for i, k := range keys {
			countsNone(t, s, k, i-1)
			counts(t, s, k, i, i)
			counts(t, s, k, 500+i, i+1, most)
			lastIs(t, s, k, 500+i, i+1, true)
		}
		versionsAre(t, s, 2*len(keys))
		keysAre(t, s, keys...)
		for i, k := range keys {
			prunes(t, s, k, i+1, 1)
			versionsAre(t, s, 2*len(keys)-i-1)
		}
		keysAre(t, s, keys...)
	})
}

// TestKeys is P11.4: in whatever order keys came, they rise; a key that was only looked at is none of them.
func TestKeys(t *testing.T) {
	d := proof.Dice(112)
	eachStore(t, func(t *testing.T, s stored) {
		var rising []api.Key
		for _, k := range farKeys() {
			if d.Below(2) == 0 {
				rising = append(rising, k)
			}
		}
		shuffled := slices.Clone(rising)
		for i := range shuffled {
			j := i + d.Below(len(shuffled)-i)
			shuffled[i], shuffled[j] = shuffled[j], shuffled[i]
		}
		for i, k := range shuffled {
			put(t, s, k, i, 1)
			for _, other := range shuffled[i+1:] {
				countsNone(t, s, other, most)
			}
		}
		for range 3 {
			keysAre(t, s, rising...)
		}
		for _, k := range farKeys() {
			if !slices.Contains(rising, k) {
				refuses(t, s, k, -1)
				hasNone(t, s, k)
			}
		}
		keysAre(t, s, rising...)
		versionsAre(t, s, len(rising))
	})
}

// TestReaders is P11.5: readers' own numbers, and which of them can be ended.
func TestReaders(t *testing.T) {
	eachStore(t, func(t *testing.T, s stored) {
		closes(t, s, false, least, -1, 0, 1, most)
		for i, n := range []int{5, least, -1, 0, most, 5, 5} {
			opens(t, s, n, i+1)
		}
		closes(t, s, false, least, -7, -1, 0, 8, 9, most)
		closes(t, s, true, 3)
		closes(t, s, false, 3, 3)
		opens(t, s, 3, 8)
		closes(t, s, true, 8)
		closes(t, s, false, 8, 9)
		opens(t, s, 4, 9)
		closes(t, s, true, 1, 9, 2, 7, 4, 6, 5)
		for r := -1; r < 12; r++ {
			closes(t, s, false, r)
		}
		opens(t, s, 1, 10)
		closes(t, s, true, 10)
		keysAre(t, s)
		versionsAre(t, s, 0)
	})
}

// TestOldest is P11.6: with readers of lesser, equal and greater numbers, of which some end.
func TestOldest(t *testing.T) {
	eachStore(t, func(t *testing.T, s stored) {
		opens(t, s, 7, 1)
		oldestAre(t, s, [2]int{least, least}, [2]int{-1, -1}, [2]int{6, 6}, [2]int{7, 7}, [2]int{8, 7}, [2]int{most, 7})
		opens(t, s, 9, 2)
		opens(t, s, 3, 3)
		oldestAre(t, s, [2]int{2, 2}, [2]int{3, 3}, [2]int{4, 3}, [2]int{8, 3}, [2]int{most, 3})
		closes(t, s, false, 4, 0, -3)
		oldestAre(t, s, [2]int{most, 3})
		closes(t, s, true, 3)
		oldestAre(t, s, [2]int{6, 6}, [2]int{8, 7}, [2]int{most, 7})
		closes(t, s, false, 3)
		oldestAre(t, s, [2]int{most, 7})
		closes(t, s, true, 1)
		oldestAre(t, s, [2]int{8, 8}, [2]int{9, 9}, [2]int{10, 9})
		opens(t, s, -5, 4)
		oldestAre(t, s, [2]int{10, -5}, [2]int{-5, -5}, [2]int{-6, -6})
		opens(t, s, least, 5)
		opens(t, s, most, 6)
		oldestAre(t, s, [2]int{10, least}, [2]int{least, least})
		closes(t, s, true, 5, 4, 2)
		oldestAre(t, s, [2]int{10, 10}, [2]int{most - 1, most - 1}, [2]int{most, most})
		closes(t, s, true, 6)
		oldestAre(t, s, [2]int{least, least}, [2]int{10, 10}, [2]int{most, most})
	})
}

// TestReadersOfOneNumber is P11.6: of several readers of one number each counts until it has ended itself.
func TestReadersOfOneNumber(t *testing.T) {
	eachStore(t, func(t *testing.T, s stored) {
		for _, order := range [][]int{{1, 2, 3}, {1, 3, 2}, {2, 1, 3}, {2, 3, 1}, {3, 1, 2}, {3, 2, 1}} {
			first := s.Open(4)
			s.Open(4)
			s.Open(4)
			for i, r := range order {
				oldestAre(t, s, [2]int{9, 4}, [2]int{4, 4}, [2]int{3, 3})
				closes(t, s, true, first+r-1)
				closes(t, s, false, first+r-1)
				if i == 1 {
					opens(t, s, 6, first+3)
				}
			}
			oldestAre(t, s, [2]int{9, 6})
			closes(t, s, true, first+3)
			oldestAre(t, s, [2]int{9, 9})
		}
	})
}

// TestPrune is P11.7 and P11.8: with readers and without.
func TestPrune(t *testing.T) {
	eachStore(t, func(t *testing.T, s stored) {
		a, b := key(0, 0), key(0, 1)
		for n := range 6 {
			put(t, s, a, 2*n, 10+n) // 0 to 10
		}
		put(t, s, b, 4, 24)
		put(t, s, b, 8, 28)
		opens(t, s, 5, 1)
		opens(t, s, 2, 2)
		for _, n := range []int{least, -1, 0, 1} {
			prunes(t, s, a, n, 0)
		}
		prunes(t, s, a, most, 1) // the reader of 2 sees the one of 2
		versionsAre(t, s, 7)
		prunes(t, s, b, most, 0)
		closes(t, s, true, 2)
		prunes(t, s, a, 3, 0)
		prunes(t, s, a, 9, 1) // the one of 2; the reader of 5 sees the one of 4
		counts(t, s, a, 12, 4, 5)
		countsNone(t, s, a, 3)
		prunes(t, s, b, most, 0)
		versionsAre(t, s, 6)
		closes(t, s, true, 1)
		prunes(t, s, a, 9, 2)
		prunes(t, s, a, 9, 0)
		prunes(t, s, b, most, 1)
		versionsAre(t, s, 3)
		counts(t, s, a, 14, 8, 9)
		counts(t, s, a, 15, 10)
		counts(t, s, b, 28, 8, most)
		countsNone(t, s, b, 7)
		prunes(t, s, key(1, 0), most, 0)
		keysAre(t, s, a, b)
		lastIs(t, s, a, 15, 10, true)
	})
}

// TestPruneForReadersBelow: a reader of a number at which nothing counts keeps all; one of a greater number than is pruned keeps nothing.
func TestPruneForReadersBelow(t *testing.T) {
	eachStore(t, func(t *testing.T, s stored) {
		k := key(65535, 65535)
		for n := 3; n < 8; n++ {
			put(t, s, k, n, n)
		}
		opens(t, s, least, 1)
		prunes(t, s, k, most, 0)
		closes(t, s, true, 1)
		opens(t, s, 2, 2)
		prunes(t, s, k, most, 0)
		closes(t, s, true, 2)
		opens(t, s, 3, 3)
		prunes(t, s, k, most, 0)
		closes(t, s, true, 3)
		opens(t, s, most, 4)
		prunes(t, s, k, 4, 1)
		opens(t, s, 0, 5) // begun too late for what is gone
		countsNone(t, s, k, 0, 3)
		prunes(t, s, k, most, 0)
		closes(t, s, true, 5)
		prunes(t, s, k, most, 3)
		versionsAre(t, s, 1)
	})
}

// TestVersions is P11.8: behind each Put, refused too, and each Prune.
func TestVersions(t *testing.T) {
	eachStore(t, func(t *testing.T, s stored) {
		for n := range 40 {
			k := key(n%7, n%3)
			put(t, s, k, n, n)
			versionsAre(t, s, n+1)
			refuses(t, s, k, n)
			s.Open(n)
			versionsAre(t, s, n+1)
		}
		left := 40
		for n := range 40 {
			closes(t, s, true, n+1)
			for _, k := range s.Keys() {
				left -= s.Prune(k, most)
				versionsAre(t, s, left)
			}
		}
		versionsAre(t, s, 21)
	})
}
