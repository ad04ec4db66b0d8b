package locks_test

import (
	"math"
	"slices"
	"testing"

	"custody/locks"
	"custody/proof"
	"custody/sched"
)

type dice struct{ proof.Dice }

func roll(seed uint64) *dice { return &dice{proof.Dice(seed)} }

func pick[T any](d *dice, l ...T) T { return proof.Of(&d.Dice, l...) }

func ints(l ...int) []int { return l }

// some are so many of these numbers at most.
func some(d *dice, most int, of ...int) []int {
	var out []int
	for range d.Below(most + 1) {
		out = append(out, pick(d, of...))
	}
	return out
}

func TestSet(t *testing.T) {
	for _, x := range []struct{ l, want []int }{
		{ints(5, 2, 5, -1), ints(-1, 2, 5)},
		{nil, nil},
		{ints(), nil},
		{ints(4), ints(4)},
		{ints(4, 4), ints(4)},
		{ints(4, 4, 4, 4), ints(4)},
		{ints(1, 2, 3), ints(1, 2, 3)},
		{ints(3, 2, 1), ints(1, 2, 3)},
		{ints(1, 2, 1, 2), ints(1, 2)},
		{ints(0, -1, -2, 0, -2), ints(-2, -1, 0)},
		{ints(math.MaxInt, 0, math.MinInt, math.MaxInt, math.MinInt), ints(math.MinInt, 0, math.MaxInt)},
		{ints(math.MinInt+1, math.MinInt, math.MaxInt, math.MaxInt-1), ints(math.MinInt, math.MinInt+1, math.MaxInt-1, math.MaxInt)},
	} {
		if got := locks.Set(x.l); !slices.Equal(got, x.want) {
			t.Errorf("Set(%v) is %v, not %v", x.l, got, x.want)
		}
	}
}

// TestSetAgainstCounts: a number that is in the list is there once, and those below it stand ahead of it.
func TestSetAgainstCounts(t *testing.T) {
	d := roll(901)
	for range 3000 {
		l := some(d, 12, -3, -1, 0, 1, 2, 7, 100, math.MaxInt, math.MinInt, d.Below(20)-10)
		got := locks.Set(l)
		for _, n := range l {
			below := map[int]int{}
			for _, m := range l {
				if m < n {
					below[m]++
				}
			}
			if at := len(below); at >= len(got) || got[at] != n {
				t.Fatalf("Set(%v) is %v: %d is not at %d", l, got, n, at)
			}
		}
		for _, n := range got {
			if !slices.Contains(l, n) {
				t.Fatalf("Set(%v) is %v: %d is none of them", l, got, n)
			}
		}
	}
}

// lockSets are sets as they may be handed in: in no order, with numbers that are there more than once, and below 0.
func lockSets() [][]int {
	return [][]int{
		nil, ints(4), ints(4, 4), ints(7, 3, 7), ints(3, 7), ints(2, -1, 9, 2, -1), ints(5, 4, 3, 2, 1), ints(1, 2, 3, 4, 5),
		ints(math.MaxInt, 0, math.MinInt, 0), ints(9, -9, 8, -8, 7, -7),
	}
}

// looker waits for a mutex for ever, if it isn't free, and is parked for event 1, if it is.
func looker(m int) func(*sched.Task) {
	return func(t *sched.Task) {
		t.Lock(m)
		t.Park(1)
	}
}

// free tells of each mutex, when this task has done what it does, whether nobody holds it. Ahead of it all of these others do what they do.
func free(task func(*sched.Task), mutexes []int, others ...func(*sched.Task)) (list []bool, ended bool) {
	// With pick 0 each time a task goes on till it can't; then the next one does.
	r := sched.New(make([]int, 1000))
	for _, f := range append(others, task) {
		r.Go(f)
	}
	for _, m := range mutexes {
		r.Go(looker(m))
	}
	x := r.Run()
	for i := range mutexes {
		list = append(list, x.Parked[len(others)+1+i] == 1)
	}
	return list, x.Ended[len(others)]
}

// rising are the numbers of a list, rising, none twice.
func rising(l []int) []int {
	var out []int
	for _, n := range l {
		if at, there := slices.BinarySearch(out, n); !there {
			out = slices.Insert(out, at, n)
		}
	}
	return out
}

// TestAcquireRises: while another task holds one of the set's mutexes, those below it are taken, and those above it are not.
func TestAcquireRises(t *testing.T) {
	for _, set := range lockSets() {
		all := rising(set)
		for place, m := range all {
			got, ended := free(func(t *sched.Task) { locks.Acquire(t, set) }, all, func(t *sched.Task) { t.Lock(m) })
			if ended {
				t.Errorf("Acquire of %v doesn't wait for %d, which another task holds", set, m)
			}
			for i := range all {
				if got[i] != (i > place) {
					t.Errorf("Acquire of %v, which waits for %d: %d is free: %v", set, m, all[i], got[i])
				}
			}
		}
	}
}

// TestAcquireTakesEachOnce: one turn ends for each number, and all of them are held.
func TestAcquireTakesEachOnce(t *testing.T) {
	for _, set := range lockSets() {
		all := rising(set)
		turns := 0
		got, ended := free(func(t *sched.Task) {
			before := t.Now()
			locks.Acquire(t, set)
			turns = t.Now() - before
		}, append(all, 1000))
		if want := append(make([]bool, len(all)), true); !ended || turns != len(all) || !slices.Equal(got, want) {
			t.Errorf("Acquire of %v: %d turns; ended: %v; free: %v of %v", set, turns, ended, got, append(all, 1000))
		}
	}
}

// TestReleaseGivesBack: all of the set, and nothing else, in the turn in which it is asked.
func TestReleaseGivesBack(t *testing.T) {
	for _, set := range lockSets() {
		all := rising(set)
		turns := -1
		got, ended := free(func(t *sched.Task) {
			locks.Acquire(t, append(ints(1000), set...))
			before := t.Now()
			locks.Release(t, set)
			turns = t.Now() - before
		}, append(all, 1000))
		if want := append(slices.Repeat([]bool{true}, len(all)), false); !ended || turns != 0 || !slices.Equal(got, want) {
			t.Errorf("Release of %v: %d turns; ended: %v; free: %v of %v", set, turns, ended, got, append(all, 1000))
		}
	}
}

// TestReleaseOfPart: what a task doesn't hold, or another one does, stays as it was; what Unlock answers isn't looked at.
func TestReleaseOfPart(t *testing.T) {
	got, ended := free(func(t *sched.Task) {
		locks.Acquire(t, ints(2, 4, 6))
		locks.Release(t, ints(6, 5, 3, 2, 1, 6))
		locks.Release(t, ints(2))
	}, ints(1, 2, 3, 4, 5, 6), func(t *sched.Task) { t.Lock(3) })
	if want := []bool{true, true, false, false, true, true}; !ended || !slices.Equal(got, want) {
		t.Errorf("ended: %v; free: %v, not %v", ended, got, want)
	}
}

// TestReleaseWakesWhoWaits: the mutexes go to those that wait for them.
func TestReleaseWakesWhoWaits(t *testing.T) {
	r := sched.New(ints(0, 0, 1, 1, 1, 0, 0, 0, 0, 0, 0))
	r.Go(func(t *sched.Task) {
		locks.Acquire(t, ints(2, 1))
		locks.Release(t, ints(1, 2))
		t.Note(0, t.Now())
	})
	for range 2 {
		r.Go(func(t *sched.Task) {
			locks.Acquire(t, ints(1, 2, 1))
			t.Note(1, t.Now())
			locks.Release(t, ints(2, 1))
		})
	}
	x := r.Run()
	// Task 0 has 1 and 2 behind its two turns, 1 and 2 wait for 1, then 0 gives both back; each of the others needs two turns more.
	if want := proof.Noted([3]int{0, 0, 5}, [3]int{1, 1, 7}, [3]int{2, 1, 9}); !slices.Equal(x.Events, want) || x.Cut || slices.Contains(x.Ended, false) {
		t.Errorf("%v, not %v", x, want)
	}
}
