package proof

import (
	"math"
	"slices"

	"custody/api"
)

// Picks are so many picks of a run.
func (d *Dice) Picks(n int) []int {
	out := make([]int, n)
	for i := range out {
		out[i] = Of(d, d.Below(7), d.Below(7)-6, int(d.Next()), math.MaxInt, math.MinInt)
	}
	return out
}

// Noted are events, told by their tasks, steps and values.
func Noted(l ...[3]int) []api.Event {
	var out []api.Event
	for _, e := range l {
		out = append(out, api.Event{Task: e[0], Step: e[1], Value: e[2]})
	}
	return out
}

// SameTrace tells whether two traces are the same; nil and empty lists are the same.
func SameTrace(a, b api.Trace) bool {
	return slices.Equal(a.Events, b.Events) && slices.Equal(a.Ended, b.Ended) && slices.Equal(a.Waiting, b.Waiting) &&
		slices.Equal(a.Parked, b.Parked) && a.Turns == b.Turns && a.Cut == b.Cut
}

// OverrunTrace fills the spare room of a trace's lists, as one who was given it may. If two of them shared memory, one would be changed.
func OverrunTrace(x api.Trace) {
	spoil(x.Events[len(x.Events):cap(x.Events)], api.Event{Task: -7, Step: -7, Value: -7})
	spoil(x.Ended[len(x.Ended):cap(x.Ended)], true)
	spoil(x.Waiting[len(x.Waiting):cap(x.Waiting)], -7)
	spoil(x.Parked[len(x.Parked):cap(x.Parked)], -8)
}

// SpoilTrace overwrites a trace's lists, and their spare room.
func SpoilTrace(x api.Trace) {
	OverrunTrace(x)
	spoil(x.Events, api.Event{Task: -7, Step: -7, Value: -7})
	for i, b := range x.Ended {
		x.Ended[i] = !b
	}
	spoil(x.Waiting, -7)
	spoil(x.Parked, -8)
}

func spoil[T any](l []T, junk T) {
	for i := range l {
		l[i] = junk
	}
}
