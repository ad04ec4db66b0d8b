package sched_test

import (
	"math"
	"slices"
	"testing"

	"custody/api"
	"custody/proof"
	"custody/sched"
)

func yield() api.Step        { return api.Step{Op: api.StYield} }
func lock(m int) api.Step    { return api.Step{Op: api.StLock, A: m} }
func unlock(m int) api.Step  { return api.Step{Op: api.StUnlock, A: m} }
func add(c, by int) api.Step { return api.Step{Op: api.StAdd, A: c, B: by} }
func read(c int) api.Step    { return api.Step{Op: api.StRead, A: c} }
func park(e int) api.Step    { return api.Step{Op: api.StPark, A: e} }
func wake(e int) api.Step    { return api.Step{Op: api.StWake, A: e} }
func all(l ...bool) []bool   { return l }
func ints(l ...int) []int    { return l }
func none(n int) []int       { return slices.Repeat([]int{-1}, n) }

// plays are told by hand: the chapter's examples first.
func plays() []struct {
	name  string
	tasks [][]api.Step
	picks []int
	want  api.Trace
} {
	a := []api.Step{lock(3), yield(), unlock(3)}
	b := []api.Step{lock(3), unlock(3)}
	return []struct {
		name  string
		tasks [][]api.Step
		picks []int
		want  api.Trace
	}{
		{"no tasks", nil, ints(5), api.Trace{}},
		{"cut", [][]api.Step{a, b}, ints(0, 1, 0, 0),
			api.Trace{Events: proof.Noted([3]int{0, 0, 3}, [3]int{0, 2, 1}), Ended: all(true, false), Waiting: none(2), Parked: none(2), Turns: 4, Cut: true}},
		{"not cut", [][]api.Step{a, b}, ints(0, 1, 0, 0, 0),
			api.Trace{Events: proof.Noted([3]int{0, 0, 3}, [3]int{0, 2, 1}, [3]int{1, 0, 3}, [3]int{1, 1, 1}), Ended: all(true, true), Waiting: none(2), Parked: none(2), Turns: 5}},
		{"wake", [][]api.Step{{park(1)}, {wake(1), wake(1)}}, ints(0, 0, 0),
			api.Trace{Events: proof.Noted([3]int{1, 0, 1}, [3]int{1, 1, 0}), Ended: all(true, true), Waiting: none(2), Parked: none(2), Turns: 3}},
		{"its own mutex", [][]api.Step{{lock(1), lock(1)}}, ints(0, 0, 0),
			api.Trace{Events: proof.Noted([3]int{0, 0, 1}), Ended: all(false), Waiting: ints(1), Parked: none(1), Turns: 2}},
		{"counters", [][]api.Step{{read(0), add(0, 5), read(0)}}, ints(-1),
			api.Trace{Events: proof.Noted([3]int{0, 0, 0}, [3]int{0, 2, 5}), Ended: all(true), Waiting: none(1), Parked: none(1), Turns: 1}},

		{"no tasks, no picks", nil, nil, api.Trace{}},
		{"a task, no picks", [][]api.Step{{yield()}}, nil, api.Trace{Ended: all(false), Waiting: none(1), Parked: none(1), Cut: true}},
		{"no steps, no picks", [][]api.Step{nil}, nil, api.Trace{Ended: all(false), Waiting: none(1), Parked: none(1), Cut: true}},
		{"no steps", [][]api.Step{nil, {}}, ints(0, 0), api.Trace{Ended: all(true, true), Waiting: none(2), Parked: none(2), Turns: 2}},
		{"picks that are left", [][]api.Step{{yield()}}, ints(0, 0, 0, 0), api.Trace{Ended: all(true), Waiting: none(1), Parked: none(1), Turns: 2}},
		{"cut just ahead of the last turn", [][]api.Step{{yield()}}, ints(9), api.Trace{Ended: all(false), Waiting: none(1), Parked: none(1), Turns: 1, Cut: true}},
		{"picks below 0 and far above", [][]api.Step{{read(0)}, {read(0)}, {read(0)}}, ints(-1, math.MaxInt, math.MinInt),
			api.Trace{Events: proof.Noted([3]int{2, 0, 0}, [3]int{1, 0, 0}, [3]int{0, 0, 0}), Ended: all(true, true, true), Waiting: none(3), Parked: none(3), Turns: 3}},
		{"who has ended keeps a mutex", [][]api.Step{{lock(4)}, {lock(4), read(0)}}, ints(0, 0, 0, 0),
			api.Trace{Events: proof.Noted([3]int{0, 0, 4}), Ended: all(true, false), Waiting: ints(-1, 4), Parked: none(2), Turns: 3}},
		{"a mutex goes to who has waited longest", [][]api.Step{{lock(1), unlock(1)}, {lock(1), unlock(1)}, {lock(1), unlock(1)}, {lock(1), unlock(1)}},
			ints(2, 3, 0, 0, 0, 0, 0, 0),
			api.Trace{Events: proof.Noted([3]int{2, 0, 1}, [3]int{2, 1, 1}, [3]int{3, 0, 1}, [3]int{3, 1, 1}, [3]int{0, 0, 1}, [3]int{0, 1, 1}, [3]int{1, 0, 1}, [3]int{1, 1, 1}),
				Ended: all(true, true, true, true), Waiting: none(4), Parked: none(4), Turns: 8}},
		{"Unlock of what one doesn't hold", [][]api.Step{{unlock(1), lock(1)}, {unlock(1), lock(1), unlock(1)}}, ints(0, 0, 0),
			api.Trace{Events: proof.Noted([3]int{0, 0, 0}, [3]int{0, 1, 1}, [3]int{1, 0, 0}), Ended: all(true, false), Waiting: ints(-1, 1), Parked: none(2), Turns: 3}},
		{"a mutex is given back once", [][]api.Step{{lock(1), unlock(1), unlock(1), lock(1), unlock(1)}}, ints(0, 0, 0),
			api.Trace{Events: proof.Noted([3]int{0, 0, 1}, [3]int{0, 1, 1}, [3]int{0, 2, 0}, [3]int{0, 3, 1}, [3]int{0, 4, 1}), Ended: all(true), Waiting: none(1), Parked: none(1), Turns: 3}},
		{"who has waited holds it", [][]api.Step{{lock(1), unlock(1), lock(1)}, {lock(1), yield(), unlock(1)}}, ints(0, 1, 0, 0, 0, 0),
			api.Trace{Events: proof.Noted([3]int{0, 0, 1}, [3]int{0, 1, 1}, [3]int{1, 0, 1}, [3]int{1, 2, 1}, [3]int{0, 2, 1}), Ended: all(true, true), Waiting: none(2), Parked: none(2), Turns: 6}},
		{"a Wake ahead of a Park", [][]api.Step{{park(2)}, {wake(2)}}, ints(1, 0, 0, 0),
			api.Trace{Events: proof.Noted([3]int{1, 0, 0}), Ended: all(false, true), Waiting: none(2), Parked: ints(2, -1), Turns: 2}},
		{"a Wake of several, not of all", [][]api.Step{{park(2)}, {park(3)}, {park(2)}, {wake(2), wake(3)}, {park(0)}}, ints(0, 0, 0, 1, 0, 0, 0, 0),
			api.Trace{Events: proof.Noted([3]int{3, 0, 2}, [3]int{3, 1, 1}), Ended: all(true, true, true, true, false), Waiting: none(5), Parked: ints(-1, -1, -1, -1, 0), Turns: 8}},
		{"a mutex and an event of one name", [][]api.Step{{lock(1), park(1)}, {lock(1)}, {wake(1), unlock(1)}}, ints(0, 0, 0, 0, 0),
			api.Trace{Events: proof.Noted([3]int{0, 0, 1}, [3]int{2, 0, 1}, [3]int{2, 1, 0}), Ended: all(true, false, true), Waiting: ints(-1, 1, -1), Parked: none(3), Turns: 5}},
		{"counters overflow", [][]api.Step{{add(1, math.MaxInt), add(1, 1), read(1), add(1, -1), read(1), add(2, math.MinInt), add(2, math.MinInt), read(2)}}, ints(0),
			api.Trace{Events: proof.Noted([3]int{0, 2, math.MinInt}, [3]int{0, 4, math.MaxInt}, [3]int{0, 7, 0}), Ended: all(true), Waiting: none(1), Parked: none(1), Turns: 1}},
		{"counters are all tasks' own", [][]api.Step{{add(1, 2)}, {read(1), read(0), add(1, 3)}, {read(1)}}, ints(0, 0, 0),
			api.Trace{Events: proof.Noted([3]int{1, 0, 2}, [3]int{1, 1, 0}, [3]int{2, 0, 5}), Ended: all(true, true, true), Waiting: none(3), Parked: none(3), Turns: 3}},
		{"the greatest names", [][]api.Step{{add(math.MaxInt, 1), read(math.MaxInt), wake(math.MaxInt), lock(math.MaxInt), park(math.MaxInt)}}, ints(0, 0, 0),
			api.Trace{Events: proof.Noted([3]int{0, 1, 1}, [3]int{0, 2, 0}, [3]int{0, 3, math.MaxInt}), Ended: all(false), Waiting: none(1), Parked: ints(math.MaxInt), Turns: 2}},
		{"A and B of a yield are not looked at", [][]api.Step{{{Op: api.StYield, A: -1, B: -1}, {Op: api.StYield, A: math.MinInt}}}, ints(0, 0, 0),
			api.Trace{Ended: all(true), Waiting: none(1), Parked: none(1), Turns: 3}},
		{"B alone of an add is looked at", [][]api.Step{{{Op: api.StRead, A: 0, B: -9}, {Op: api.StWake, A: 0, B: 9}, {Op: api.StUnlock, A: 0, B: math.MinInt}}}, ints(0),
			api.Trace{Events: proof.Noted([3]int{0, 0, 0}, [3]int{0, 1, 0}, [3]int{0, 2, 0}), Ended: all(true), Waiting: none(1), Parked: none(1), Turns: 1}},
	}
}

func TestPlays(t *testing.T) {
	for _, x := range plays() {
		got, err := sched.Play(x.tasks, x.picks)
		if err != nil || !proof.SameTrace(got, x.want) {
			t.Errorf("%s: %v %v, not %v", x.name, got, err, x.want)
		}
		if again := reckon(x.tasks, x.picks); !proof.SameTrace(again, x.want) {
			t.Errorf("%s: the model is wrong: %v, not %v", x.name, again, x.want)
		}
	}
}

// Errors

// refused tells whether Play answers this error, and nothing beside it.
func refused(t *testing.T, name string, tasks [][]api.Step, picks []int, no api.Errno) {
	t.Helper()
	x, err := sched.Play(tasks, picks)
	if !proof.Tells(err, no) || !proof.SameTrace(x, api.Trace{}) {
		t.Errorf("%s: %v, not %v; beside it %d turns, %d events, %d tasks", name, err, no, x.Turns, len(x.Events), len(x.Ended))
	}
}

func TestEachError(t *testing.T) {
	for _, op := range ints(-1, 7, 8, math.MaxInt, math.MinInt) {
		refused(t, "a code", [][]api.Step{{{Op: op}}}, nil, api.ErrCode)
	}
	for op := api.StLock; op <= api.StWake; op++ {
		refused(t, "a name below 0", [][]api.Step{{{Op: op, A: -1}}}, ints(0), api.ErrArg)
		refused(t, "a name far below 0", [][]api.Step{{{Op: op, A: math.MinInt}}}, ints(0), api.ErrArg)
		if _, err := sched.Play([][]api.Step{{{Op: op, A: 0}}}, ints(0)); err != nil {
			t.Errorf("the name 0 of %d: %v", op, err)
		}
	}
	refused(t, "tasks", make([][]api.Step, api.MaxTasks+1), nil, api.ErrMany)
	refused(t, "steps", [][]api.Step{make([]api.Step, api.MaxSteps+1)}, nil, api.ErrMany)
	refused(t, "steps of the last one", [][]api.Step{{yield()}, nil, make([]api.Step, api.MaxSteps+1)}, nil, api.ErrMany)
	refused(t, "picks", nil, make([]int, api.MaxPicks+1), api.ErrMany)
	refused(t, "picks, with a task", [][]api.Step{{yield()}}, make([]int, api.MaxPicks+1), api.ErrMany)
}

func TestErrorsInOrder(t *testing.T) {
	code, arg := api.Step{Op: 7}, lock(-1)
	for _, bad := range []api.Step{code, arg} {
		many := make([][]api.Step, api.MaxTasks+1)
		many[0] = []api.Step{bad}
		refused(t, "tasks first", many, nil, api.ErrMany)
		refused(t, "steps first", [][]api.Step{{bad}, make([]api.Step, api.MaxSteps+1)}, nil, api.ErrMany)
		refused(t, "steps first, in one task", [][]api.Step{append([]api.Step{bad}, make([]api.Step, api.MaxSteps)...)}, nil, api.ErrMany)
		refused(t, "picks first", [][]api.Step{{bad}}, make([]int, api.MaxPicks+1), api.ErrMany)
	}
	refused(t, "both in one step", [][]api.Step{{{Op: 7, A: -1}}}, nil, api.ErrCode)
	refused(t, "both in one step, a code below 0", [][]api.Step{{{Op: -1, A: -1}}}, nil, api.ErrCode)
	refused(t, "the earlier step", [][]api.Step{{yield(), code, arg}}, nil, api.ErrCode)
	refused(t, "the earlier step", [][]api.Step{{yield(), arg, code}}, nil, api.ErrArg)
	refused(t, "the earlier task", [][]api.Step{{yield(), yield(), code}, {arg}}, nil, api.ErrCode)
	refused(t, "the earlier task", [][]api.Step{{yield(), yield(), arg}, {code}}, nil, api.ErrArg)
	refused(t, "the last step of the last task", [][]api.Step{{yield()}, nil, {lock(0), unlock(0), arg}}, nil, api.ErrArg)
}

func TestLimits(t *testing.T) {
	full := make([][]api.Step, api.MaxTasks)
	for i := range full {
		full[i] = slices.Repeat([]api.Step{yield()}, api.MaxSteps-1)
		full[i] = append(full[i], read(0))
	}
	x, err := sched.Play(full, make([]int, api.MaxPicks))
	if err != nil || x.Turns != api.MaxTasks*api.MaxSteps || x.Cut || len(x.Events) != api.MaxTasks || slices.Contains(x.Ended, false) {
		t.Errorf("all limits at once: %v, %d turns, %d events", err, x.Turns, len(x.Events))
	}
	// With pick 0 each time the first task does all its steps, then the second, and so on.
	for i, e := range x.Events {
		if (e != api.Event{Task: i, Step: api.MaxSteps - 1}) {
			t.Fatalf("event %d is %v", i, e)
		}
	}
}
