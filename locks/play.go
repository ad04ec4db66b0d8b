package locks

import (
	"slices"

	"custody/api"
	"custody/sched"
)

// Play runs tasks each of which takes its lock sets one behind the other (ordered: by Acquire; else in the order of the list).
func Play(tasks [][][]int, ordered bool, picks []int) (api.Trace, error) {
	if err := check(tasks, picks); err != nil {
		return api.Trace{}, err
	}
	take := takeAsListed
	if ordered {
		take = takeInOrder
	}
	r := sched.New(picks)
	for _, sets := range tasks {
		r.Go(func(t *sched.Task) {
			for place, set := range sets {
				take(t, place, set)
			}
		})
	}
	return r.Run(), nil
}

func check(tasks [][][]int, picks []int) error {
	if len(tasks) > api.MaxTasks || len(picks) > api.MaxPicks {
		return api.ErrMany
	}
	for _, sets := range tasks {
		if len(sets) > api.MaxSteps || count(sets) > api.MaxSteps {
			return api.ErrMany
		}
	}
	for _, sets := range tasks {
		if slices.ContainsFunc(sets, func(set []int) bool { return slices.ContainsFunc(set, below0) }) {
			return api.ErrArg
		}
	}
	return nil
}

// count is how many numbers these sets have together.
func count(sets [][]int) int {
	n := 0
	for _, set := range sets {
		n += len(set)
	}
	return n
}

func below0(n int) bool { return n < 0 }

// takeInOrder takes a set by Acquire, and gives it back. It is noted when all of it is held, and when all is given back.
func takeInOrder(t *sched.Task, place int, set []int) {
	set = Set(set)
	Acquire(t, set)
	for _, m := range set {
		t.Note(place, m)
	}
	t.Yield()
	Release(t, set)
	for _, m := range slices.Backward(set) {
		noteBack(t, place, m)
	}
}

// takeAsListed takes the mutexes as they stand in the list, and may so wait for ever.
func takeAsListed(t *sched.Task, place int, set []int) {
	for _, m := range set {
		t.Lock(m)
		t.Note(place, m)
	}
	t.Yield()
	for _, m := range slices.Backward(set) {
		t.Unlock(m)
		noteBack(t, place, m)
	}
}

// noteBack notes that a mutex was given back: by a number below 0, so that it is told apart from one that was taken.
func noteBack(t *sched.Task, place, m int) { t.Note(place, -1-m) }
