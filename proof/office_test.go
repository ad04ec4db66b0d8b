package proof_test

import (
	"math"
	"testing"

	"custody/api"
	"custody/proof"
)

// officeOf is an office whose clerks have these steps to do: of each the mutex that it locks and gives back, if it is from 0 to 9; else it parks for 1 (-1), wakes 1 (-2), or pauses (-3).
func officeOf(clerks ...[]int) *proof.Office {
	o := proof.NewOffice(len(clerks))
	for n, l := range clerks {
		c := o.Clerks[n]
		for _, x := range l {
			switch x {
			case -1:
				c.Todo = append(c.Todo, func() bool { return c.Park(1) })
			case -2:
				c.Todo = append(c.Todo, func() bool { return o.Wake(1) < 0 })
			case -3:
				c.Todo = append(c.Todo, proof.Pause)
			default:
				c.Todo = append(c.Todo, o.Lock(c, x), func() bool { return !o.Unlock(c, x) })
			}
		}
	}
	return o
}

func TestOffice(t *testing.T) {
	for _, x := range []struct {
		name   string
		clerks [][]int
		picks  []int
		want   api.Trace
		waited int
	}{
		{"none", nil, []int{5}, api.Trace{}, 0},
		{"nothing to do", [][]int{{}, {}}, []int{1, 0}, api.Trace{Ended: []bool{true, true}, Waiting: []int{-1, -1}, Parked: []int{-1, -1}, Turns: 2}, 0},
		{"no picks", [][]int{{}}, nil, api.Trace{Ended: []bool{false}, Waiting: []int{-1}, Parked: []int{-1}, Cut: true}, 0},
		{"cut", [][]int{{-3, -3}}, []int{-1, math.MinInt}, api.Trace{Ended: []bool{false}, Waiting: []int{-1}, Parked: []int{-1}, Turns: 2, Cut: true}, 0},
		{"one waits", [][]int{{3}, {3}}, []int{0, 1}, api.Trace{Ended: []bool{false, false}, Waiting: []int{-1, 3}, Parked: []int{-1, -1}, Turns: 2, Cut: true}, 1},
		{"and gets it", [][]int{{3}, {3}}, []int{0, 1, 0, 0}, api.Trace{Ended: []bool{true, true}, Waiting: []int{-1, -1}, Parked: []int{-1, -1}, Turns: 4}, 1},
		{"the longest first", [][]int{{3, -3}, {3, -3}, {3, -3}}, []int{0, 2, 1, 0}, api.Trace{Ended: []bool{false, false, false}, Waiting: []int{-1, 3, -1}, Parked: []int{-1, -1, -1}, Turns: 4, Cut: true}, 2},
		{"parked", [][]int{{-1}, {}}, []int{0, 0}, api.Trace{Ended: []bool{false, true}, Waiting: []int{-1, -1}, Parked: []int{1, -1}, Turns: 2}, 0},
		{"and waked", [][]int{{-1}, {-2}}, []int{0, 0, 0}, api.Trace{Ended: []bool{true, true}, Waiting: []int{-1, -1}, Parked: []int{-1, -1}, Turns: 3}, 0},
	} {
		o := officeOf(x.clerks...)
		o.Play(x.picks)
		if got := o.Trace(); !proof.SameTrace(got, x.want) || o.Waited != x.waited {
			t.Errorf("%s: %+v, %d waited; want %+v, %d", x.name, got, o.Waited, x.want, x.waited)
		}
	}
}

// TestOfficeNext: what is laid ahead is done ahead of what was to do.
func TestOfficeNext(t *testing.T) {
	o := proof.NewOffice(1)
	c := o.Clerks[0]
	var done []int
	do := func(n int) proof.Step {
		return func() bool {
			done = append(done, n)
			return false
		}
	}
	c.Todo = append(c.Todo, func() bool {
		c.Next(do(1), do(2))
		return false
	}, do(3))
	o.Play([]int{0})
	if len(done) != 3 || done[0] != 1 || done[1] != 2 || done[2] != 3 || o.Cut || o.Turns != 1 || c.Number != 0 {
		t.Errorf("done is %v", done)
	}
}

// TestOfficeUnlock: who doesn't hold a mutex doesn't give it back.
func TestOfficeUnlock(t *testing.T) {
	o := proof.NewOffice(2)
	if o.Unlock(o.Clerks[0], 3) || !o.Lock(o.Clerks[0], 3)() || o.Unlock(o.Clerks[1], 3) || !o.Unlock(o.Clerks[0], 3) || o.Unlock(o.Clerks[0], 3) || o.Wake(3) != 0 {
		t.Error("a mutex was given back by another one, or twice")
	}
}
