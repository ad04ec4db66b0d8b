package sched_test

import (
	"math"
	"slices"
	"testing"

	"custody/api"
	"custody/proof"
	"custody/sched"
)

// mustPlay is the trace of a play that isn't refused.
func mustPlay(t *testing.T, tasks [][]api.Step, picks []int) api.Trace {
	t.Helper()
	x, err := sched.Play(tasks, picks)
	if err != nil {
		t.Fatalf("tasks %v, picks %v: %v", tasks, picks, err)
	}
	return x
}

// stepOf is the step that noted an event.
func stepOf(tasks [][]api.Step, e api.Event) api.Step { return tasks[e.Task][e.Step] }

// TestOneAtATime is P8.10.
func TestOneAtATime(t *testing.T) {
	d := roll(810)
	taken := 0
	for range 2000 {
		tasks := draw(d, 6, 8, ints(0, 1), api.StYield, api.StLock, api.StUnlock, api.StUnlock)
		holder := map[int]int{}
		for _, e := range mustPlay(t, tasks, d.Picks(size(tasks))).Events {
			s := stepOf(tasks, e)
			other, held := holder[s.A]
			switch {
			case s.Op == api.StLock && held:
				t.Fatalf("tasks %v: %v, while task %d holds it", tasks, e, other)
			case s.Op == api.StLock:
				holder[s.A] = e.Task
				taken++
			case e.Value == 1 && (!held || other != e.Task):
				t.Fatalf("tasks %v: %v gives back what it doesn't hold", tasks, e)
			case e.Value == 1:
				delete(holder, s.A)
			}
		}
	}
	if taken < 2000 {
		t.Errorf("only %d mutexes were taken", taken)
	}
}

// TestItEnds is P8.11.
func TestItEnds(t *testing.T) {
	d := roll(811)
	most := 0
	for range 2000 {
		tasks := drawPlay(d)
		for _, more := range ints(0, 1, 9) {
			x := mustPlay(t, tasks, d.Picks(size(tasks)+more))
			if x.Cut || x.Turns > size(tasks) {
				t.Fatalf("tasks %v: %d turns, cut: %v", tasks, x.Turns, x.Cut)
			}
			most += btoi(len(tasks) > 0 && x.Turns == size(tasks))
		}
	}
	yields := [][]api.Step{{yield(), lock(0)}, {park(1), yield()}, {yield(), wake(1)}}
	if x := mustPlay(t, yields, ints(1, 0, 0, 1, 1, 0, 0, 0)); x.Cut || x.Turns != 8 || slices.Contains(x.Ended, false) {
		t.Errorf("a play of many turns: %v", x)
	}
	if most == 0 {
		t.Error("no play had as many turns as steps and tasks")
	}
}

// TestABeginning is P8.12.
func TestABeginning(t *testing.T) {
	d := roll(812)
	for range 400 {
		tasks := drawPlay(d)
		picks := d.Picks(d.Below(size(tasks) + 3))
		long := mustPlay(t, tasks, picks)
		for n := range picks {
			short := mustPlay(t, tasks, picks[:n])
			if len(short.Events) > len(long.Events) || !slices.Equal(short.Events, long.Events[:len(short.Events)]) || short.Turns > long.Turns {
				t.Fatalf("tasks %v, picks %v, %d of them: %v, but %v", tasks, picks, n, short, long)
			}
			if short.Cut && short.Turns != n || !short.Cut && !proof.SameTrace(short, long) {
				t.Fatalf("tasks %v, picks %v, %d of them: %v, but %v", tasks, picks, n, short, long)
			}
		}
	}
}

// TestForWhomOneWaits is P8.13.
func TestForWhomOneWaits(t *testing.T) {
	d := roll(813)
	waited := 0
	for range 2000 {
		tasks := drawPlay(d)
		x := mustPlay(t, tasks, d.Picks(size(tasks)))
		more := map[int]int{}
		for _, e := range x.Events {
			switch s := stepOf(tasks, e); {
			case s.Op == api.StLock:
				more[s.A]++
			case s.Op == api.StUnlock:
				more[s.A] -= e.Value
			}
		}
		for m, n := range more {
			if n != 0 && n != 1 {
				t.Fatalf("tasks %v: mutex %d was noted %d times more than given back", tasks, m, n)
			}
		}
		for i := range tasks {
			if btoi(x.Ended[i])+btoi(x.Waiting[i] != -1)+btoi(x.Parked[i] != -1) != 1 {
				t.Fatalf("tasks %v: task %d neither ended, nor waits, nor is parked: %v", tasks, i, x)
			}
			if m := x.Waiting[i]; m != -1 && more[m] != 1 {
				t.Fatalf("tasks %v: task %d waits for %d, which is free", tasks, i, m)
			}
			waited += btoi(x.Waiting[i] != -1)
		}
	}
	if waited < 1000 {
		t.Errorf("only %d tasks waited", waited)
	}
}

// TestPicksModulo is P8.14.
func TestPicksModulo(t *testing.T) {
	const all = 27720
	d := roll(814)
	for range 1500 {
		tasks := draw(d, 12, 4, ints(0, 1), playOps...)
		picks := make([]int, d.Below(size(tasks)+3))
		moved := make([]int, len(picks))
		for i := range picks {
			picks[i] = d.Below(40) - 20
			moved[i] = picks[i] + all*pick(d, 0, 1, -1, d.Below(1000), math.MaxInt/all-1, math.MinInt/all+1)
		}
		if a, b := mustPlay(t, tasks, picks), mustPlay(t, tasks, moved); !proof.SameTrace(a, b) {
			t.Fatalf("tasks %v, picks %v: %v, but with %v: %v", tasks, picks, a, moved, b)
		}
	}
}

// TestThirteenTasks: 27720 is no multiple of 13.
func TestThirteenTasks(t *testing.T) {
	tasks := make([][]api.Step, 13)
	for i := range tasks {
		tasks[i] = []api.Step{read(0)}
	}
	x, y := mustPlay(t, tasks, ints(0)), mustPlay(t, tasks, ints(27720))
	if x.Events[0].Task != 0 || y.Events[0].Task != 27720%13 {
		t.Errorf("%v, %v", x.Events, y.Events)
	}
}
