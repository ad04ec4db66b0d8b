package locks_test

import (
	"slices"
	"testing"

	"custody/locks"
	"custody/proof"
	"custody/sched"
)

// junk is what spare room is filled with; no test draws it.
const junk = -77

// copyWhole is a copy of a list of lists, with all spare room.
func copyWhole(l [][]int) [][]int {
	var out [][]int
	for _, x := range proof.Whole(l) {
		out = append(out, slices.Clone(proof.Whole(x)))
	}
	return out
}

func TestSetLeavesItsArgument(t *testing.T) {
	d := roll(920)
	for range 500 {
		l := proof.Room(some(d, 6, 1, 2, 3, 4), junk)
		old := slices.Clone(proof.Whole(l))
		first, second := locks.Set(l), locks.Set(l)
		want := slices.Clone(second)
		proof.Overwrite(first, junk)
		if !slices.Equal(proof.Whole(l), old) || !slices.Equal(second, want) {
			t.Fatalf("Set of %v has left %v; another answer is %v", old, proof.Whole(l), second)
		}
		proof.Overwrite(l, 0)
		if !slices.Equal(second, want) {
			t.Fatalf("Set of %v shares its memory", old)
		}
	}
}

// TestAcquireKeepsACopy: a list that another task changes meanwhile is taken as it was handed in; and it is left as it is.
func TestAcquireKeepsACopy(t *testing.T) {
	set := proof.Room(ints(3, 1, 2), junk)
	old := slices.Clone(proof.Whole(set))
	r := sched.New(ints(0, 1, 0, 0, 0, 0, 0, 0, 0))
	r.Go(func(t *sched.Task) {
		locks.Acquire(t, set)
		for m := range 10 {
			if t.Unlock(m) {
				t.Note(0, m)
			}
		}
	})
	r.Go(func(t *sched.Task) { proof.Overwrite(set, 7) })
	if x, want := r.Run(), proof.Noted([3]int{0, 0, 1}, [3]int{0, 0, 2}, [3]int{0, 0, 3}); !slices.Equal(x.Events, want) {
		t.Errorf("%v, not %v", x.Events, want)
	}
	copy(proof.Whole(set), old)
	r = sched.New(zeros(9))
	r.Go(func(t *sched.Task) {
		locks.Acquire(t, set)
		locks.Release(t, set)
	})
	if x := r.Run(); !x.Ended[0] || !slices.Equal(proof.Whole(set), old) {
		t.Errorf("the set is %v, and was %v", proof.Whole(set), old)
	}
}

func TestEdgesAndRingLeaveTheirArguments(t *testing.T) {
	d := roll(921)
	for range 500 {
		waiting := proof.Room(some(d, 6, -1, 0, 1, 2, 3), junk)
		holder := proof.Room(some(d, 4, -1, 0, 1, 2, 3), junk)
		oldWaiting, oldHolder := slices.Clone(proof.Whole(waiting)), slices.Clone(proof.Whole(holder))
		first, second := locks.Edges(waiting, holder), locks.Edges(waiting, holder)
		want := slices.Clone(second)
		proof.Overwrite(first, [2]int{junk, junk})
		if !slices.Equal(second, want) || !slices.Equal(proof.Whole(waiting), oldWaiting) || !slices.Equal(proof.Whole(holder), oldHolder) {
			t.Fatalf("Edges of %v and %v has left %v and %v; another answer is %v", oldWaiting, oldHolder, proof.Whole(waiting), proof.Whole(holder), second)
		}

		l := proof.Room(append(second, [2]int{d.Below(4), d.Below(4)}), [2]int{junk, junk})
		oldEdges := slices.Clone(proof.Whole(l))
		ring, _ := locks.Ring(l)
		other, _ := locks.Ring(l)
		wantRing := slices.Clone(other)
		proof.Overwrite(ring, junk)
		if !slices.Equal(other, wantRing) || !slices.Equal(proof.Whole(l), oldEdges) {
			t.Fatalf("Ring of %v has left %v; another answer is %v", oldEdges, proof.Whole(l), other)
		}
	}
}

func TestPlayLeavesItsArguments(t *testing.T) {
	d := roll(922)
	for n := range 500 {
		tasks, ordered := drawSets(d), n%2 == 0
		for i := range tasks {
			for place := range tasks[i] {
				tasks[i][place] = proof.Room(tasks[i][place], junk)
			}
			tasks[i] = proof.Room(tasks[i], ints(junk))
		}
		tasks = proof.Room(tasks, [][]int{ints(junk)})
		picks := proof.Room(d.Picks(d.Below(bound(tasks, ordered)+3)), junk)
		old := slices.Clone(proof.Whole(picks))
		var lists [][][]int
		for _, sets := range proof.Whole(tasks) {
			lists = append(lists, copyWhole(sets))
		}
		mustPlay(t, tasks, ordered, picks)
		for i, sets := range proof.Whole(tasks) {
			if now := copyWhole(sets); !proof.SameLists(now, lists[i]) {
				t.Fatalf("the sets of task %d were %v, and are %v", i, lists[i], now)
			}
		}
		if !slices.Equal(proof.Whole(picks), old) {
			t.Fatalf("the picks were %v, and are %v", old, proof.Whole(picks))
		}
	}
}

func TestTracesAreNewMemory(t *testing.T) {
	d := roll(923)
	for n := range 500 {
		tasks, ordered := drawSets(d), n%2 == 0
		picks := d.Picks(d.Below(bound(tasks, ordered) + 3))
		want := asSteps(tasks, ordered, picks)
		first, second := mustPlay(t, tasks, ordered, picks), mustPlay(t, tasks, ordered, picks)
		proof.OverrunTrace(first)
		if !proof.SameTrace(first, want) {
			t.Fatalf("lists share memory: %v, not %v", first, want)
		}
		proof.SpoilTrace(first)
		if third := mustPlay(t, tasks, ordered, picks); !proof.SameTrace(second, want) || !proof.SameTrace(third, want) {
			t.Fatalf("answers share memory: %v, %v, not %v", second, third, want)
		}
	}
}
