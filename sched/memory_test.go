package sched_test

import (
	"slices"
	"testing"

	"custody/api"
	"custody/proof"
	"custody/sched"
)

func TestPlayLeavesArguments(t *testing.T) {
	d := roll(830)
	for range 300 {
		tasks := proof.Room(drawPlay(d), []api.Step{{Op: 9}})
		for i := range tasks {
			tasks[i] = proof.Room(tasks[i], api.Step{Op: 9, A: 9, B: 9})
		}
		picks := proof.Room(d.Picks(d.Below(size(tasks)+3)), 9)
		var before [][]api.Step
		for _, steps := range proof.Whole(tasks) {
			before = append(before, slices.Clone(proof.Whole(steps)))
		}
		old := slices.Clone(proof.Whole(picks))
		mustPlay(t, tasks, picks)
		for i, steps := range proof.Whole(tasks) {
			if !slices.Equal(proof.Whole(steps), before[i]) {
				t.Fatalf("task %d was %v, and is %v", i, before[i], proof.Whole(steps))
			}
		}
		if !slices.Equal(proof.Whole(picks), old) {
			t.Fatalf("the picks were %v, and are %v", old, proof.Whole(picks))
		}
	}
}

func TestNewKeepsACopy(t *testing.T) {
	d := roll(831)
	for range 300 {
		tasks := drawPlay(d)
		picks := proof.Room(d.Picks(d.Below(size(tasks)+3)), 9)
		want := reckon(tasks, picks)
		r := runtimeOf(tasks, picks)
		for i := range proof.Whole(picks) {
			proof.Whole(picks)[i] = d.Below(20) - 40
		}
		old := slices.Clone(proof.Whole(picks))
		if got := r.Run(); !proof.SameTrace(got, want) || !slices.Equal(proof.Whole(picks), old) {
			t.Fatalf("%v, not %v", got, want)
		}
	}
}

func TestAnswersAreNewMemory(t *testing.T) {
	d := roll(832)
	for range 300 {
		tasks := drawPlay(d)
		picks := d.Picks(d.Below(size(tasks) + 3))
		want := reckon(tasks, picks)
		r := runtimeOf(tasks, picks)
		first, second := r.Run(), mustPlay(t, tasks, picks)
		for range 2 {
			proof.OverrunTrace(first)
			if !proof.SameTrace(first, want) || !proof.SameTrace(second, want) {
				t.Fatalf("lists share memory: %v, %v, not %v", first, second, want)
			}
			proof.SpoilTrace(first)
			if x := r.Run(); !proof.SameTrace(x, api.Trace{}) || !proof.SameTrace(second, want) {
				t.Fatalf("answers share memory: %v, %v", x, second)
			}
			first, second = second, mustPlay(t, tasks, picks)
		}
	}
}

// TestLateNotesStayOut: what a task does that is given up, and has caught that, comes into no answer.
func TestLateNotesStayOut(t *testing.T) {
	r := sched.New(ints(0, 0))
	r.Go(func(t *sched.Task) {
		defer func() {
			recover()
			for range 100 {
				t.Note(9, 9)
			}
		}()
		t.Note(1, 1)
		t.Note(2, 2)
		t.Note(3, 3)
		t.Park(0)
	})
	x := r.Run()
	want := proof.Noted([3]int{0, 1, 1}, [3]int{0, 2, 2}, [3]int{0, 3, 3})
	if !slices.Equal(x.Events, want) || slices.Contains(proof.Whole(x.Events), api.Event{Step: 9, Value: 9}) {
		t.Errorf("%v", proof.Whole(x.Events))
	}
}
