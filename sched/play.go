package sched

import "custody/api"

// Play runs tasks that are told as steps.
func Play(tasks [][]api.Step, picks []int) (api.Trace, error) {
	if err := check(tasks, picks); err != nil {
		return api.Trace{}, err
	}
	r := New(picks)
	counters := map[int]int{}
	for _, steps := range tasks {
		r.Go(func(t *Task) {
			for n, s := range steps {
				t.do(n, s, counters)
			}
		})
	}
	return r.Run(), nil
}

func check(tasks [][]api.Step, picks []int) error {
	if len(tasks) > api.MaxTasks || len(picks) > api.MaxPicks {
		return api.ErrMany
	}
	for _, steps := range tasks {
		if len(steps) > api.MaxSteps {
			return api.ErrMany
		}
	}
	for _, steps := range tasks {
		for _, s := range steps {
			if s.Op < api.StYield || s.Op > api.StWake {
				return api.ErrCode
			}
			if s.A < 0 && s.Op != api.StYield {
				return api.ErrArg
			}
		}
	}
	return nil
}

// do does the step with the number n. The counters are all tasks' own: who has the baton may use them.
func (t *Task) do(n int, s api.Step, counters map[int]int) {
	switch s.Op {
	case api.StYield:
		t.Yield()
	case api.StLock:
		t.Lock(s.A)
		t.Note(n, s.A)
	case api.StUnlock:
		value := 0
		if t.Unlock(s.A) {
			value = 1
		}
		t.Note(n, value)
	case api.StAdd:
		counters[s.A] += s.B
	case api.StRead:
		t.Note(n, counters[s.A])
	case api.StPark:
		t.Park(s.A)
	case api.StWake:
		t.Note(n, t.Wake(s.A))
	}
}
