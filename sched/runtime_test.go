package sched_test

import (
	"runtime"
	"slices"
	"sync"
	"testing"
	"time"

	"custody/api"
	"custody/proof"
	"custody/sched"
)

// settles tells whether there are no more goroutines than so many; one that has answered may need a moment to be gone.
func settles(most int) bool {
	for range 2000 {
		if runtime.NumGoroutine() <= most {
			return true
		}
		time.Sleep(time.Millisecond)
	}
	return false
}

// calm is how many goroutines there are, when those of earlier tests are gone.
func calm() int {
	least := runtime.NumGoroutine()
	for range 5 {
		time.Sleep(time.Millisecond)
		least = min(least, runtime.NumGoroutine())
	}
	return least
}

func TestGoAnswersNumbers(t *testing.T) {
	base := calm()
	r := sched.New(ints(0, 0, 0))
	called := 0
	for n := range 50 {
		if got := r.Go(func(*sched.Task) { called++ }); got != n {
			t.Errorf("task %d has the number %d", n, got)
		}
	}
	if now := runtime.NumGoroutine(); now > base || called != 0 {
		t.Errorf("ahead of Run there are %d goroutines more, and %d functions were called", now-base, called)
	}
	if x := r.Run(); called != 3 || x.Turns != 3 || !x.Cut || len(x.Ended) != 50 {
		t.Errorf("%d functions were called: %v", called, x)
	}
}

func TestRunWithoutTasks(t *testing.T) {
	for _, picks := range [][]int{nil, {}, {1, 2}} {
		if x := sched.New(picks).Run(); !proof.SameTrace(x, api.Trace{}) {
			t.Errorf("picks %v: %v", picks, x)
		}
	}
}

func TestSecondRun(t *testing.T) {
	for _, picks := range [][]int{nil, {0}, {0, 0, 0, 0, 0, 0, 0, 0}} {
		calls := 0
		r := sched.New(picks)
		for range 2 {
			r.Go(func(t *sched.Task) {
				calls++
				t.Note(1, 1)
				t.Yield()
				t.Note(2, 2)
			})
		}
		r.Run()
		before := calls
		if x := r.Run(); !proof.SameTrace(x, api.Trace{}) {
			t.Errorf("picks %v: the second run is %v", picks, x)
		}
		for n := range 3 {
			if got := r.Go(func(*sched.Task) { calls++ }); got != 2+n {
				t.Errorf("a late task has the number %d, not %d", got, 2+n)
			}
		}
		if x := r.Run(); !proof.SameTrace(x, api.Trace{}) || calls != before {
			t.Errorf("picks %v: the third run is %v, and %d functions more were called", picks, x, calls-before)
		}
	}
}

// TestSecondRunOfNone: the first Run counts too where there was nothing to run.
func TestSecondRunOfNone(t *testing.T) {
	r := sched.New(ints(0, 0))
	r.Run()
	called := false
	if n := r.Go(func(*sched.Task) { called = true }); n != 0 {
		t.Errorf("the first task has the number %d", n)
	}
	if x := r.Run(); !proof.SameTrace(x, api.Trace{}) || called {
		t.Errorf("%v, called: %v", x, called)
	}
}

// TestNowAndNumber: within one turn Now stays, and Unlock, Wake, Note and Now don't end it.
func TestNowAndNumber(t *testing.T) {
	r := sched.New(ints(2, 0, 1, -1, 0, 0, 0, 0, 0))
	for range 3 {
		r.Go(func(t *sched.Task) {
			for range 2 {
				t.Note(t.Number(), t.Now())
				t.Unlock(1)
				t.Wake(1)
				t.Note(t.Number()+100, t.Now())
				t.Yield()
			}
		})
	}
	var want []api.Event
	for turn, n := range ints(2, 0, 1, 2, 0, -1, 1) {
		if n >= 0 {
			want = append(want, api.Event{Task: n, Step: n, Value: turn + 1}, api.Event{Task: n, Step: n + 100, Value: turn + 1})
		}
	}
	if x := r.Run(); !slices.Equal(x.Events, want) || x.Turns != 9 || x.Cut {
		t.Errorf("%v, not %v", x, want)
	}
}

// TestNoteTakesAllNumbers: step and value are the caller's.
func TestNoteTakesAllNumbers(t *testing.T) {
	d := roll(820)
	var want []api.Event
	r := sched.New(ints(0))
	for range 100 {
		want = append(want, api.Event{Step: int(d.Next()), Value: int(d.Next())})
	}
	r.Go(func(t *sched.Task) {
		for _, e := range want {
			t.Note(e.Step, e.Value)
		}
	})
	if x := r.Run(); !slices.Equal(x.Events, want) {
		t.Error("what was noted is not what was told")
	}
}

// TestOneRunsAtATime: what has the baton may use what all tasks share, without a lock of its own.
func TestOneRunsAtATime(t *testing.T) {
	d := roll(821)
	const tasks, rounds = 8, 200
	r := sched.New(d.Picks(tasks * (3*rounds + 1)))
	inside, sum := 0, 0
	for range tasks {
		r.Go(func(t *sched.Task) {
			for range rounds {
				t.Lock(-9)
				inside++
				old := sum
				t.Yield()
				if inside != 1 {
					t.Note(-1, inside)
				}
				sum = old + 1
				inside--
				if !t.Unlock(-9) {
					t.Note(-2, 0)
				}
				t.Yield()
			}
		})
	}
	if x := r.Run(); x.Cut || len(x.Events) != 0 || sum != tasks*rounds || slices.Contains(x.Ended, false) {
		t.Errorf("%d, not %d: %v", sum, tasks*rounds, x.Events)
	}
}

// The end

// TestTasksAreGivenUp: runnable, waiting, parked and never begun, each task has gone when Run answers, and did nothing more. What they put off is done one by one.
func TestTasksAreGivenUp(t *testing.T) {
	base := calm()
	for turns := range 6 {
		begun, behind, inside := 0, 0, 0
		var left []int
		r := sched.New(ints(0, 1, 1, 1, 2)[:turns])
		for n := range 6 {
			r.Go(func(t *sched.Task) {
				begun++
				inside = max(inside, runtime.NumGoroutine())
				defer func() { left = append(left, n) }()
				switch n {
				case 0:
					t.Lock(7)
				case 1:
					t.Lock(7)
					behind++
				case 2:
					t.Park(7)
					behind++
				default:
					t.Yield()
				}
				t.Yield()
				behind++
			})
		}
		x := r.Run()
		if !x.Cut || x.Turns != turns || slices.Contains(x.Ended, true) || behind != 0 || begun != turns || !slices.Equal(left, ints(0, 1, 2, 3, 4)[:turns]) {
			t.Errorf("%d turns: %d begun, %d left, %d steps too many: %v", turns, begun, left, behind, x)
		}
		if turns > 0 && inside < base+6 {
			t.Errorf("%d turns: with six tasks there are %d goroutines more", turns, inside-base)
		}
		if !settles(base) {
			t.Errorf("%d turns: there are %d goroutines left", turns, runtime.NumGoroutine()-base)
		}
	}
}

// TestTasksThatStayStuck: the run is over and not cut, but tasks wait and are parked: they too have gone.
func TestTasksThatStayStuck(t *testing.T) {
	base := calm()
	left, behind := 0, 0
	r := sched.New(make([]int, 50))
	for n := range 12 {
		r.Go(func(t *sched.Task) {
			defer func() { left++ }()
			switch n % 4 {
			case 0:
				t.Lock(n)
				t.Lock(n)
			case 1:
				t.Lock(n - 1)
			case 2:
				t.Park(n)
			default:
				return
			}
			behind++
		})
	}
	x := r.Run()
	want := api.Trace{Turns: 15}
	for n := range 12 {
		want.Ended = append(want.Ended, n%4 == 3)
		want.Waiting = append(want.Waiting, ints(n, n-1, -1, -1)[n%4])
		want.Parked = append(want.Parked, ints(-1, -1, n, -1)[n%4])
	}
	if !proof.SameTrace(x, want) || left != 12 || behind != 0 {
		t.Errorf("%v, not %v; %d left, %d went on", x, want, left, behind)
	}
	if !settles(base) {
		t.Errorf("there are %d goroutines left", runtime.NumGoroutine()-base)
	}
}

// TestTasksWithoutEnd: a function may call Yield, Lock or Park again and again, for ever.
func TestTasksWithoutEnd(t *testing.T) {
	base := calm()
	d := roll(822)
	left := 0
	r := sched.New(d.Picks(5000))
	for n := range 4 {
		r.Go(func(t *sched.Task) {
			defer func() { left++ }()
			for {
				switch n {
				case 0:
					t.Yield()
				case 1:
					t.Lock(n)
					t.Unlock(n)
				case 2:
					t.Wake(3)
					t.Yield()
				default:
					t.Park(3)
				}
			}
		})
	}
	if x := r.Run(); !x.Cut || x.Turns != 5000 || left != 4 || slices.Contains(x.Ended, true) {
		t.Errorf("%v, %d left", x, left)
	}
	if !settles(base) {
		t.Errorf("there are %d goroutines left", runtime.NumGoroutine()-base)
	}
}

// TestDeepInside: a task is given up however deep in its function's calls it stands.
func TestDeepInside(t *testing.T) {
	left := 0
	var down func(t *sched.Task, n int)
	down = func(t *sched.Task, n int) {
		defer func() { left++ }()
		if n == 0 {
			t.Park(0)
			return
		}
		down(t, n-1)
	}
	r := sched.New(ints(0, 0))
	r.Go(func(t *sched.Task) { down(t, 100) })
	if x := r.Run(); left != 101 || x.Parked[0] != 0 || x.Cut {
		t.Errorf("%d calls left: %v", left, x)
	}
}

// TestFunctionsThatCatch: a function that catches what gives it up, and goes on for a while, is told the end again; the trace stays.
func TestFunctionsThatCatch(t *testing.T) {
	caught := 0
	quietly := func(f func()) {
		defer func() {
			if recover() != nil {
				caught++
			}
		}()
		f()
	}
	r := sched.New(ints(0, 0))
	r.Go(func(t *sched.Task) {
		t.Note(1, 1)
		for range 5 {
			quietly(t.Yield)
		}
	})
	x := r.Run()
	if want := (api.Trace{Events: proof.Noted([3]int{0, 1, 1}), Ended: all(false), Waiting: none(1), Parked: none(1), Turns: 2, Cut: true}); !proof.SameTrace(x, want) || caught != 4 {
		t.Errorf("%v, caught %d times", x, caught)
	}
}

// TestFunctionsThatLeave: a function that is left by other means than a return has ended too, and so has none at all.
func TestFunctionsThatLeave(t *testing.T) {
	r := sched.New(make([]int, 9))
	r.Go(func(t *sched.Task) {
		t.Yield()
		runtime.Goexit()
	})
	r.Go(nil)
	r.Go(func(t *sched.Task) { t.Note(3, 3) })
	want := api.Trace{Events: proof.Noted([3]int{2, 3, 3}), Ended: all(true, true, true), Waiting: none(3), Parked: none(3), Turns: 4}
	if x := r.Run(); !proof.SameTrace(x, want) {
		t.Errorf("%v", x)
	}
}

// Several at a time

// TestRuntimesInRuntimes: a task may run a runtime of its own.
func TestRuntimesInRuntimes(t *testing.T) {
	d := roll(823)
	tasks := drawPlay(d)
	picks := d.Picks(size(tasks) / 2)
	want := reckon(tasks, picks)
	same := 0
	r := sched.New(make([]int, 20))
	for range 4 {
		r.Go(func(t *sched.Task) {
			t.Yield()
			x, err := sched.Play(tasks, picks)
			same += btoi(err == nil && proof.SameTrace(x, want))
			t.Yield()
		})
	}
	if x := r.Run(); x.Turns != 12 || same != 4 {
		t.Errorf("%v, %d the same", x, same)
	}
}

// TestAskedByMany: a runtime may be asked from many sides; one Run is the first.
func TestAskedByMany(t *testing.T) {
	r := sched.New(make([]int, 1000))
	numbers := make([]int, 100)
	traces := make([]api.Trace, 100)
	var ready sync.WaitGroup
	for i := range numbers {
		ready.Go(func() {
			numbers[i] = r.Go(func(t *sched.Task) { t.Yield() })
			if i >= 50 {
				traces[i] = r.Run()
			}
		})
	}
	ready.Wait()
	slices.Sort(numbers)
	ran := 0
	for i, x := range traces {
		ran += btoi(x.Turns > 0)
		if numbers[i] != i || x.Turns != 2*len(x.Ended) {
			t.Errorf("number %d, %d turns of %d tasks", numbers[i], x.Turns, len(x.Ended))
		}
	}
	if ran != 1 {
		t.Errorf("%d runs ran", ran)
	}
}
