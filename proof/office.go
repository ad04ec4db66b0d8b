package proof

import (
	"math/big"

	"custody/api"
)

// Office is a run of tasks once more, without goroutines: what a clerk has still to do is a list of steps. The layers whose tasks run at the same time are held against it.
type Office struct {
	Clerks []*Clerk
	Turns  int
	Cut    bool
	Waited int // how often one had to wait for a mutex
	holder map[int]*Clerk
}

// Step is something that a clerk does; true: its turn ends by it.
type Step func() bool

// Clerk is a task of an office.
type Clerk struct {
	Number int
	Todo   []Step
	state  byte // r: runnable, w: waits, p: parked, e: ended
	thing  int  // for which it waits, or is parked
	since  int  // the turn in which it began to wait
}

// NewOffice is one with so many clerks, which have nothing to do yet.
func NewOffice(clerks int) *Office {
	o := &Office{holder: map[int]*Clerk{}}
	for n := range clerks {
		o.Clerks = append(o.Clerks, &Clerk{Number: n, state: 'r'})
	}
	return o
}

// Next lays steps ahead of all that is still to do.
func (c *Clerk) Next(l ...Step) { c.Todo = append(l, c.Todo...) }

// Play is the run by these picks.
func (o *Office) Play(picks []int) {
	for {
		var able []*Clerk
		for _, c := range o.Clerks {
			if c.state == 'r' {
				able = append(able, c)
			}
		}
		if len(able) == 0 {
			return
		}
		if o.Turns == len(picks) {
			o.Cut = true
			return
		}
		var place big.Int
		place.Mod(big.NewInt(int64(picks[o.Turns])), big.NewInt(int64(len(able))))
		o.Turns++
		able[place.Int64()].turn()
	}
}

func (c *Clerk) turn() {
	for len(c.Todo) > 0 {
		s := c.Todo[0]
		c.Todo = c.Todo[1:]
		if s() {
			return
		}
	}
	c.state = 'e'
}

// Trace is what the run came to; nothing is noted in it.
func (o *Office) Trace() api.Trace {
	x := api.Trace{Turns: o.Turns, Cut: o.Cut}
	for _, c := range o.Clerks {
		waiting, parked := -1, -1
		switch c.state {
		case 'w':
			waiting = c.thing
		case 'p':
			parked = c.thing
		}
		x.Ended = append(x.Ended, c.state == 'e')
		x.Waiting = append(x.Waiting, waiting)
		x.Parked = append(x.Parked, parked)
	}
	return x
}

// Pause is the step that ends a turn, and nothing else.
func Pause() bool { return true }

// Lock is the step of a clerk that takes a mutex, or waits for it.
func (o *Office) Lock(c *Clerk, mutex int) Step {
	return func() bool {
		if o.holder[mutex] == nil {
			o.holder[mutex] = c
		} else {
			c.state, c.thing, c.since = 'w', mutex, o.Turns
			o.Waited++
		}
		return true
	}
}

// Unlock gives a mutex to the one that has waited longest, if the clerk holds it.
func (o *Office) Unlock(c *Clerk, mutex int) bool {
	if o.holder[mutex] != c {
		return false
	}
	delete(o.holder, mutex)
	var longest *Clerk
	for _, other := range o.Clerks {
		if other.state == 'w' && other.thing == mutex && (longest == nil || other.since < longest.since) {
			longest = other
		}
	}
	if longest != nil {
		longest.state = 'r'
		o.holder[mutex] = longest
	}
	return true
}

// Park parks a clerk; its turn ends by that.
func (c *Clerk) Park(event int) bool {
	c.state, c.thing = 'p', event
	return true
}

// Wake makes all runnable that are parked for an event: how many these are.
func (o *Office) Wake(event int) int {
	n := 0
	for _, c := range o.Clerks {
		if c.state == 'p' && c.thing == event {
			c.state = 'r'
			n++
		}
	}
	return n
}
