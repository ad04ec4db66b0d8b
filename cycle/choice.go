package cycle

import (
	"cmp"
	"slices"

	"custody/api"
	"custody/prio"
)

// choice is a choice of wishes: which are in, and which are out.
type choice struct {
	scales
	in    *prio.Heap[api.Wish] // the least urgent first: so they go out
	out   *prio.Heap[api.Wish] // the most urgent first: so they come in again
	alone gains                // what keys get of the wish that is looked at
}

// choiceOf is one in which all wishes are in.
func choiceOf(b []api.Balance, l []api.Wish) *choice {
	c := &choice{scalesOf(b, l), byUrgency(-1), byUrgency(1), gains{}}
	for _, w := range l {
		c.in.Push(w)
	}
	return c
}

// byUrgency is a heap of wishes, the most urgent first; turned about by -1, the least urgent first.
func byUrgency(turn int) *prio.Heap[api.Wish] {
	return prio.New(func(a, b api.Wish) bool { return turn*urgency(a, b) < 0 })
}

// urgency is below 0, if the first wish is more urgent than the other. Two wishes are never equally urgent, as their ids are unlike.
func urgency(a, b api.Wish) int {
	return cmp.Or(cmp.Compare(b.Priority, a.Priority), cmp.Compare(a.Came, b.Came), cmp.Compare(a.Id, b.Id))
}

// choose lets wishes go out till the others settle together, and then come in again as far as they fit.
func (c *choice) choose() {
	for k, ok := c.against(); ok; k, ok = c.against() {
		c.leave(k)
	}
	for c.enter() {
	}
}

// leave lets the least urgent of the wishes that bring a key where it may not be go out: where it lacks something one takes from it, and where it has too much one gives to it.
func (c *choice) leave(k api.Key) {
	end := given
	if c.held[k].lacks(c.gets[k]) {
		end = taken
	}
	w, ok := c.in.Remove(func(w api.Wish) bool {
		return slices.ContainsFunc(w.Legs, func(x api.Leg) bool { return end(x) == k })
	})
	if ok {
		c.gets.drop(w)
		c.out.Push(w)
	}
}

// enter lets the most urgent of the wishes that fit come in; false: none fits.
func (c *choice) enter() bool {
	w, ok := c.out.Remove(c.fits)
	if ok {
		c.gets.add(w)
		c.in.Push(w)
	}
	return ok
}

// fits tells whether a wish settles together with those that are in. As these do, nothing but the keys that it names can stand against it.
func (c *choice) fits(w api.Wish) bool {
	c.alone.only(w)
	for k, gain := range c.alone {
		if !c.held[k].fits(c.gets[k].plus(gain)) {
			return false
		}
	}
	return true
}

// chosen are the ids of the wishes that are in, rising.
func (c *choice) chosen() []int {
	var ids []int
	for _, w := range c.in.Sorted() {
		ids = append(ids, w.Id)
	}
	slices.Sort(ids)
	return ids
}
