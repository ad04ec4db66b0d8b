package locks_test

import (
	"math"
	"runtime"
	"slices"
	"testing"
	"time"

	"custody/api"
	"custody/locks"
	"custody/proof"
	"custody/sched"
)

func all(l ...bool) []bool { return l }

func none(n int) []int { return slices.Repeat(ints(-1), n) }

// zeros are so many picks of 0: each task does all that it can, by rising numbers.
func zeros(n int) []int { return make([]int, n) }

// plays are told by hand: the chapter's examples first.
func plays() []struct {
	name    string
	tasks   [][][]int
	ordered bool
	picks   []int
	want    api.Trace
} {
	two := [][][]int{{ints(0, 1)}, {ints(1, 0)}}
	twice := [][][]int{{ints(4, 4)}}
	return []struct {
		name    string
		tasks   [][][]int
		ordered bool
		picks   []int
		want    api.Trace
	}{
		{"the chapter's ring", two, false, ints(0, 1, 0, 1),
			api.Trace{Events: proof.Noted([3]int{0, 0, 0}, [3]int{1, 0, 1}), Ended: all(false, false), Waiting: ints(1, 0), Parked: none(2), Turns: 4}},
		{"the chapter's order", two, true, ints(0, 1, 0, 0, 0, 0, 0, 0),
			api.Trace{Events: proof.Noted([3]int{0, 0, 0}, [3]int{0, 0, 1}, [3]int{0, 0, -2}, [3]int{0, 0, -1}, [3]int{1, 0, 0}, [3]int{1, 0, 1}, [3]int{1, 0, -2}, [3]int{1, 0, -1}),
				Ended: all(true, true), Waiting: none(2), Parked: none(2), Turns: 8}},
		{"picks that are left", two, true, ints(0, 1, 0, 0, 0, 0, 0, 0, 9, 9),
			api.Trace{Events: proof.Noted([3]int{0, 0, 0}, [3]int{0, 0, 1}, [3]int{0, 0, -2}, [3]int{0, 0, -1}, [3]int{1, 0, 0}, [3]int{1, 0, 1}, [3]int{1, 0, -2}, [3]int{1, 0, -1}),
				Ended: all(true, true), Waiting: none(2), Parked: none(2), Turns: 8}},
		{"a pick too few", two, true, ints(0, 1, 0, 0, 0, 0, 0),
			api.Trace{Events: proof.Noted([3]int{0, 0, 0}, [3]int{0, 0, 1}, [3]int{0, 0, -2}, [3]int{0, 0, -1}, [3]int{1, 0, 0}, [3]int{1, 0, 1}),
				Ended: all(true, false), Waiting: none(2), Parked: none(2), Turns: 7, Cut: true}},
		{"cut while all of a set but the last is held", two, true, ints(0, 1, 0),
			api.Trace{Ended: all(false, false), Waiting: ints(-1, 0), Parked: none(2), Turns: 3, Cut: true}},
		{"as they stand, and none waits", two, false, zeros(8),
			api.Trace{Events: proof.Noted([3]int{0, 0, 0}, [3]int{0, 0, 1}, [3]int{0, 0, -2}, [3]int{0, 0, -1}, [3]int{1, 0, 1}, [3]int{1, 0, 0}, [3]int{1, 0, -1}, [3]int{1, 0, -2}),
				Ended: all(true, true), Waiting: none(2), Parked: none(2), Turns: 8}},
		{"each is noted when it is taken", two, false, ints(0, 1, 0),
			api.Trace{Events: proof.Noted([3]int{0, 0, 0}), Ended: all(false, false), Waiting: ints(1, -1), Parked: none(2), Turns: 3, Cut: true}},

		{"no tasks", nil, true, nil, api.Trace{}},
		{"no tasks", nil, false, ints(5), api.Trace{}},
		{"a task, no picks", two[:1], true, nil, api.Trace{Ended: all(false), Waiting: none(1), Parked: none(1), Cut: true}},
		{"no sets", [][][]int{nil, {}}, true, ints(1, 0), api.Trace{Ended: all(true, true), Waiting: none(2), Parked: none(2), Turns: 2}},
		{"no sets", [][][]int{nil, {}}, false, ints(1, 0), api.Trace{Ended: all(true, true), Waiting: none(2), Parked: none(2), Turns: 2}},
		{"sets without numbers", [][][]int{{nil, {}}}, true, ints(0, 0, 0, 0), api.Trace{Ended: all(true), Waiting: none(1), Parked: none(1), Turns: 3}},
		{"sets without numbers", [][][]int{{nil, {}}}, false, ints(0, 0, 0, 0), api.Trace{Ended: all(true), Waiting: none(1), Parked: none(1), Turns: 3}},
		{"sets without numbers, cut", [][][]int{{nil, {}}}, false, ints(0, 0), api.Trace{Ended: all(false), Waiting: none(1), Parked: none(1), Turns: 2, Cut: true}},
		{"a number twice", twice, true, zeros(3),
			api.Trace{Events: proof.Noted([3]int{0, 0, 4}, [3]int{0, 0, -5}), Ended: all(true), Waiting: none(1), Parked: none(1), Turns: 3}},
		{"a number twice", twice, false, zeros(4),
			api.Trace{Events: proof.Noted([3]int{0, 0, 4}), Ended: all(false), Waiting: ints(4), Parked: none(1), Turns: 2}},
		{"rising and falling", [][][]int{{ints(3, 1, 2, 1)}}, true, zeros(5),
			api.Trace{Events: proof.Noted([3]int{0, 0, 1}, [3]int{0, 0, 2}, [3]int{0, 0, 3}, [3]int{0, 0, -4}, [3]int{0, 0, -3}, [3]int{0, 0, -2}), Ended: all(true), Waiting: none(1), Parked: none(1), Turns: 5}},
		{"there and back", [][][]int{{ints(3, 1, 2)}}, false, zeros(5),
			api.Trace{Events: proof.Noted([3]int{0, 0, 3}, [3]int{0, 0, 1}, [3]int{0, 0, 2}, [3]int{0, 0, -3}, [3]int{0, 0, -2}, [3]int{0, 0, -4}), Ended: all(true), Waiting: none(1), Parked: none(1), Turns: 5}},
		{"sets by their places", [][][]int{{ints(1), nil, ints(1), ints(0)}}, true, zeros(8),
			api.Trace{Events: proof.Noted([3]int{0, 0, 1}, [3]int{0, 0, -2}, [3]int{0, 2, 1}, [3]int{0, 2, -2}, [3]int{0, 3, 0}, [3]int{0, 3, -1}), Ended: all(true), Waiting: none(1), Parked: none(1), Turns: 8}},
		{"sets by their places", [][][]int{{ints(1), nil, ints(1), ints(0)}}, false, zeros(8),
			api.Trace{Events: proof.Noted([3]int{0, 0, 1}, [3]int{0, 0, -2}, [3]int{0, 2, 1}, [3]int{0, 2, -2}, [3]int{0, 3, 0}, [3]int{0, 3, -1}), Ended: all(true), Waiting: none(1), Parked: none(1), Turns: 8}},
		{"the greatest number", [][][]int{{ints(math.MaxInt, 0)}}, true, zeros(4),
			api.Trace{Events: proof.Noted([3]int{0, 0, 0}, [3]int{0, 0, math.MaxInt}, [3]int{0, 0, math.MinInt}, [3]int{0, 0, -1}), Ended: all(true), Waiting: none(1), Parked: none(1), Turns: 4}},
		{"a set is held up to the turn behind the yield", [][][]int{{ints(2)}, {ints(2)}}, true, ints(0, 0, 1, 0, 0, 0),
			api.Trace{Events: proof.Noted([3]int{0, 0, 2}, [3]int{0, 0, -3}, [3]int{1, 0, 2}, [3]int{1, 0, -3}), Ended: all(true, true), Waiting: none(2), Parked: none(2), Turns: 6}},
	}
}

func TestPlays(t *testing.T) {
	for _, x := range plays() {
		got, err := locks.Play(x.tasks, x.ordered, x.picks)
		if err != nil || !proof.SameTrace(got, x.want) {
			t.Errorf("%s, ordered: %v: %v %v, not %v", x.name, x.ordered, got, err, x.want)
		}
		if again := asSteps(x.tasks, x.ordered, x.picks); !proof.SameTrace(again, x.want) {
			t.Errorf("%s, ordered: %v: the model is wrong: %v, not %v", x.name, x.ordered, again, x.want)
		}
	}
}

// TestRingOfTheExample: the chapter says it beside the trace.
func TestRingOfTheExample(t *testing.T) {
	x, err := locks.Play([][][]int{{ints(0, 1)}, {ints(1, 0)}}, false, ints(0, 1, 0, 1))
	got := locks.Edges(x.Waiting, ints(0, 1))
	if err != nil || !slices.Equal(got, edges([2]int{0, 1}, [2]int{1, 0})) {
		t.Errorf("the edges are %v, %v", got, err)
	}
	same(t, "the example", got, 0, 1)
}

// script is what a task does, as steps of layer 8, and what is noted here when a step is noted there.
type script struct {
	steps []api.Step
	notes [][][2]int // of each step: places and values
}

func (s *script) add(op, m int, notes ...[2]int) {
	s.steps = append(s.steps, api.Step{Op: op, A: m})
	s.notes = append(s.notes, notes)
}

// listed is a set that is taken as it stands.
func (s *script) listed(place int, set []int) {
	for i := range set {
		s.add(api.StLock, set[i], [2]int{place, set[i]})
	}
	s.add(api.StYield, 0)
	for i := len(set) - 1; i >= 0; i-- {
		s.add(api.StUnlock, set[i], [2]int{place, -1 - set[i]})
	}
}

// inOrder is a set that is taken in order: all is noted behind the last step of each kind.
func (s *script) inOrder(place int, set []int) {
	set = rising(set)
	var taken, back [][2]int
	for i, m := range set {
		taken = append(taken, [2]int{place, m})
		if i < len(set)-1 {
			s.add(api.StLock, m)
		} else {
			s.add(api.StLock, m, taken...)
		}
	}
	s.add(api.StYield, 0)
	slices.Reverse(set)
	for i, m := range set {
		back = append(back, [2]int{place, -1 - m})
		if i < len(set)-1 {
			s.add(api.StUnlock, m)
		} else {
			s.add(api.StUnlock, m, back...)
		}
	}
}

// asSteps is the trace of a play, reckoned as a play of layer 8.
func asSteps(tasks [][][]int, ordered bool, picks []int) api.Trace {
	scripts := make([]script, len(tasks))
	steps := make([][]api.Step, len(tasks))
	for i, sets := range tasks {
		for place, set := range sets {
			if ordered {
				scripts[i].inOrder(place, set)
			} else {
				scripts[i].listed(place, set)
			}
		}
		steps[i] = scripts[i].steps
	}
	x, err := sched.Play(steps, picks)
	if err != nil {
		panic(err)
	}
	played := x.Events
	x.Events = nil
	for _, e := range played {
		for _, n := range scripts[e.Task].notes[e.Step] {
			x.Events = append(x.Events, api.Event{Task: e.Task, Step: n[0], Value: n[1]})
		}
	}
	return x
}

// drawSets are tasks with sets of chance.
func drawSets(d *dice) [][][]int {
	of := pick(d, ints(0), ints(0, 1), ints(0, 1, 2, 3), ints(5, 2, 9, math.MaxInt))
	tasks := make([][][]int, d.Below(6))
	for i := range tasks {
		for range d.Below(4) {
			set := some(d, 4, of...)
			if d.Below(3) > 0 {
				slices.Sort(set)
				set = slices.Compact(set)
				if d.Below(2) > 0 {
					slices.Reverse(set)
				}
			}
			tasks[i] = append(tasks[i], set)
		}
	}
	return tasks
}

// bound is how many turns a play has at most: one for each task, each set, and each number.
func bound(tasks [][][]int, ordered bool) int {
	n := len(tasks)
	for _, sets := range tasks {
		n += len(sets)
		for _, set := range sets {
			if ordered {
				n += len(rising(set))
			} else {
				n += len(set)
			}
		}
	}
	return n
}

func TestPlayAgainstSteps(t *testing.T) {
	d := roll(910)
	waiting, cut, done := 0, 0, 0
	for n := range 4000 {
		tasks, ordered := drawSets(d), n%2 == 0
		picks := d.Picks(d.Below(bound(tasks, ordered) + 4))
		want := asSteps(tasks, ordered, picks)
		got, err := locks.Play(tasks, ordered, picks)
		if err != nil || !proof.SameTrace(got, want) {
			t.Fatalf("sets %v, ordered: %v, picks %v: %v %v, not %v", tasks, ordered, picks, got, err, want)
		}
		switch {
		case got.Cut:
			cut++
		case slices.Contains(got.Ended, false):
			waiting++
		default:
			done++
		}
	}
	if waiting < 200 || cut < 200 || done < 200 {
		t.Errorf("the plays are too much alike: %d with tasks that wait, %d cut, %d done", waiting, cut, done)
	}
}

// Errors

// refused tells whether Play answers this error, and nothing beside it, ordered or not.
func refused(t *testing.T, name string, tasks [][][]int, picks []int, no api.Errno) {
	t.Helper()
	for _, ordered := range all(true, false) {
		x, err := locks.Play(tasks, ordered, picks)
		if !proof.Tells(err, no) || !proof.SameTrace(x, api.Trace{}) {
			t.Errorf("%s: %v, not %v; beside it %d turns, %d events, %d tasks", name, err, no, x.Turns, len(x.Events), len(x.Ended))
		}
	}
}

// numbers are one set of so many numbers, from 0 on.
func numbers(n int) []int {
	var out []int
	for i := range n {
		out = append(out, i)
	}
	return out
}

func TestEachError(t *testing.T) {
	refused(t, "tasks", make([][][]int, api.MaxTasks+1), nil, api.ErrMany)
	refused(t, "picks", nil, zeros(api.MaxPicks+1), api.ErrMany)
	refused(t, "picks, with a task", [][][]int{{ints(1)}}, zeros(api.MaxPicks+1), api.ErrMany)
	refused(t, "sets", [][][]int{make([][]int, api.MaxSteps+1)}, nil, api.ErrMany)
	refused(t, "sets of the last task", [][][]int{{ints(1)}, nil, make([][]int, api.MaxSteps+1)}, zeros(1), api.ErrMany)
	refused(t, "numbers of one set", [][][]int{{numbers(api.MaxSteps + 1)}}, zeros(1), api.ErrMany)
	refused(t, "numbers of two sets", [][][]int{{numbers(api.MaxSteps), ints(0)}}, zeros(1), api.ErrMany)
	refused(t, "numbers of many sets", [][][]int{slices.Repeat([][]int{ints(1, 2)}, api.MaxSteps/2+1)}, zeros(1), api.ErrMany)
	refused(t, "numbers of the last task", [][][]int{{ints(1)}, nil, {ints(0), numbers(api.MaxSteps)}}, zeros(1), api.ErrMany)
	refused(t, "one number many times", [][][]int{{zeros(api.MaxSteps + 1)}}, zeros(1), api.ErrMany)
	refused(t, "a number below 0", [][][]int{{ints(-1)}}, zeros(1), api.ErrArg)
	refused(t, "a number far below 0", [][][]int{{ints(math.MinInt)}}, nil, api.ErrArg)
	refused(t, "the last number of the last set of the last task", [][][]int{{ints(1)}, nil, {ints(1), nil, ints(0, 1, -1)}}, zeros(9), api.ErrArg)
	refused(t, "the first number of the first task", [][][]int{{ints(-1, 1), ints(2)}, {ints(3)}}, zeros(9), api.ErrArg)
}

func TestErrorsInOrder(t *testing.T) {
	bad := [][]int{ints(-1)}
	tasks := make([][][]int, api.MaxTasks+1)
	tasks[0] = bad
	refused(t, "tasks ahead of a number", tasks, nil, api.ErrMany)
	refused(t, "picks ahead of a number", [][][]int{bad}, zeros(api.MaxPicks+1), api.ErrMany)
	refused(t, "sets ahead of a number", [][][]int{bad, make([][]int, api.MaxSteps+1)}, nil, api.ErrMany)
	refused(t, "sets ahead of a number of one task", [][][]int{slices.Repeat(bad, api.MaxSteps+1)}, nil, api.ErrMany)
	refused(t, "numbers ahead of a number", [][][]int{bad, {numbers(api.MaxSteps + 1)}}, nil, api.ErrMany)
	refused(t, "numbers ahead of a number of one set", [][][]int{{slices.Repeat(ints(-1), api.MaxSteps+1)}}, nil, api.ErrMany)
}

// TestLimits: as much as may be, of each kind and of all together.
func TestLimits(t *testing.T) {
	if x, err := locks.Play(nil, true, zeros(api.MaxPicks)); err != nil || !proof.SameTrace(x, api.Trace{}) {
		t.Errorf("picks: %v, %d turns", err, x.Turns)
	}
	for _, ordered := range all(true, false) {
		sets := make([][]int, api.MaxSteps)
		for i := range sets {
			sets[i] = ints(i % 3)
		}
		tasks := slices.Repeat([][][]int{sets}, api.MaxTasks)
		tasks[0] = [][]int{numbers(api.MaxSteps)}
		most := bound(tasks, ordered)
		x, err := locks.Play(tasks, ordered, zeros(api.MaxPicks))
		if err != nil || x.Cut || slices.Contains(x.Ended, false) || x.Turns != most || len(x.Events) != 2*api.MaxTasks*api.MaxSteps {
			t.Errorf("all limits at once: %v, %d turns of %d, %d events", err, x.Turns, most, len(x.Events))
		}
		x, err = locks.Play([][][]int{{zeros(api.MaxSteps)}}, ordered, zeros(3))
		if err != nil || x.Ended[0] != ordered || len(x.Events) == 0 {
			t.Errorf("one number as often as may be: %v, %v", err, x)
		}
	}
}

// TestNoGoroutinesAreLeft: also where tasks wait for ever, or a run is cut.
func TestNoGoroutinesAreLeft(t *testing.T) {
	base := runtime.NumGoroutine()
	for _, x := range plays() {
		if _, err := locks.Play(x.tasks, x.ordered, x.picks); err != nil {
			t.Error(err)
		}
	}
	// One that has answered may need a moment to be gone.
	for range 1000 {
		if runtime.NumGoroutine() <= base {
			return
		}
		time.Sleep(time.Millisecond)
	}
	t.Errorf("there are %d goroutines left", runtime.NumGoroutine()-base)
}
