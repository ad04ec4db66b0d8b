package locks_test

import (
	"math"
	"slices"
	"testing"

	"custody/api"
	"custody/locks"
	"custody/proof"
)

// mustPlay is the trace of a play that isn't refused.
func mustPlay(t *testing.T, tasks [][][]int, ordered bool, picks []int) api.Trace {
	t.Helper()
	x, err := locks.Play(tasks, ordered, picks)
	if err != nil {
		t.Fatalf("sets %v, ordered: %v: %v", tasks, ordered, err)
	}
	return x
}

// drawTangled are tasks with sets of few mutexes, so that they wait for one another; none is twice in a set, if once is asked.
func drawTangled(d *dice, once bool) [][][]int {
	tasks := make([][][]int, 1+d.Below(6))
	for i := range tasks {
		for range d.Below(4) {
			set := some(d, 4, 0, 1, 2, 3, 4)
			if once {
				for at := len(set) - 1; at >= 0; at-- {
					if slices.Contains(set[:at], set[at]) {
						set = slices.Delete(set, at, at+1)
					}
				}
			}
			tasks[i] = append(tasks[i], set)
		}
	}
	return tasks
}

// TestNoDeadlock is P9.6.
func TestNoDeadlock(t *testing.T) {
	d := roll(96)
	for range 3000 {
		tasks := drawTangled(d, false)
		picks := d.Picks(d.Below(2*bound(tasks, true) + 1))
		x := mustPlay(t, tasks, true, picks)
		if !x.Cut && slices.Contains(x.Ended, false) {
			t.Fatalf("sets %v, picks %v: %v", tasks, picks, x)
		}
		if x.Cut && x.Turns != len(picks) {
			t.Fatalf("sets %v, picks %v: cut behind %d turns", tasks, picks, x.Turns)
		}
	}
}

// holders are who holds each mutex of those below n by the notes, or -1.
func holders(t *testing.T, x api.Trace, n int) []int {
	t.Helper()
	out := slices.Repeat(ints(-1), n)
	for _, e := range x.Events {
		m, before, behind := e.Value, -1, e.Task
		if e.Value < 0 {
			m, before, behind = -1-e.Value, e.Task, -1
		}
		if out[m] != before {
			t.Fatalf("%v, while task %d holds it, in %v", e, out[m], x.Events)
		}
		out[m] = behind
	}
	return out
}

// TestDeadlockIsARing is P9.7.
func TestDeadlockIsARing(t *testing.T) {
	d := roll(97)
	own, long := 0, 0
	for n := range 4000 {
		tasks := drawTangled(d, n%3 > 0)
		x := mustPlay(t, tasks, false, d.Picks(bound(tasks, false)))
		waits := func(task int) bool { return x.Waiting[task] != -1 }
		holder := holders(t, x, 5)
		ring, ok := locks.Ring(locks.Edges(x.Waiting, holder))
		if !ok {
			if slices.Contains(x.Ended, false) || !slices.Equal(x.Waiting, none(len(tasks))) {
				t.Fatalf("sets %v: no ring, but %v", tasks, x)
			}
			continue
		}
		for i, task := range ring {
			if !waits(task) || holder[x.Waiting[task]] != ring[(i+1)%len(ring)] {
				t.Fatalf("sets %v: %v is no ring of %v", tasks, ring, x)
			}
		}
		switch len(ring) {
		case 1:
			own++
		case 2:
		default:
			long++
		}
	}
	if own < 100 || long < 30 {
		t.Errorf("%d tasks waited for themselves, %d rings were longer than two", own, long)
	}
}

// TestOneAtATime is P9.8.
func TestOneAtATime(t *testing.T) {
	d := roll(98)
	for n := range 3000 {
		tasks, ordered := drawTangled(d, false), n%2 == 0
		x := mustPlay(t, tasks, ordered, d.Picks(d.Below(bound(tasks, ordered)+2)))
		free := slices.Equal(holders(t, x, 5), none(5))
		if !free && !slices.Contains(x.Ended, false) {
			t.Fatalf("sets %v: all have ended, and a mutex is held: %v", tasks, x)
		}
	}
}

// TestHowLongItTakes is P9.9. In order no task stays where it is, so that a run has just as many turns.
func TestHowLongItTakes(t *testing.T) {
	d := roll(99)
	fewer := 0
	for range 3000 {
		tasks := drawTangled(d, false)
		most := bound(tasks, true)
		if x := mustPlay(t, tasks, true, d.Picks(most+d.Below(2))); x.Cut || x.Turns != most {
			t.Fatalf("sets %v: %d turns of %d, cut: %v", tasks, x.Turns, most, x.Cut)
		}
		if x := mustPlay(t, tasks, true, d.Picks(most-1)); !x.Cut {
			t.Fatalf("sets %v: less than %d turns", tasks, most)
		}
		most = bound(tasks, false)
		x := mustPlay(t, tasks, false, d.Picks(most+d.Below(2)))
		if x.Cut || x.Turns > most || x.Turns < most && !slices.Contains(x.Ended, false) {
			t.Fatalf("sets %v: %d turns of %d, cut: %v", tasks, x.Turns, most, x.Cut)
		}
		if x.Turns < most {
			fewer++
		}
	}
	if fewer < 300 {
		t.Errorf("only %d runs ended early", fewer)
	}
}

// TestPicksOfAnySize: picks are numbers modulo how many can run, also at both ends of int.
func TestPicksOfAnySize(t *testing.T) {
	tasks := [][][]int{{ints(0)}, {ints(1)}, {ints(2)}}
	x := mustPlay(t, tasks, true, ints(-1, math.MaxInt, math.MinInt, -1, 0, 0))
	// Of three tasks -1 is the last one; the ends of int are both 1 modulo 3.
	want := proof.Noted([3]int{1, 0, 1}, [3]int{2, 0, 2}, [3]int{0, 0, 0})
	if !slices.Equal(x.Events, want) || x.Turns != 6 || !x.Cut {
		t.Errorf("%v, not %v", x, want)
	}
}
