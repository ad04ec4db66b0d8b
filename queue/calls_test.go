package queue_test

import (
	"errors"
	"fmt"
	"testing"

	"custody/api"
	"custody/proof"
	"custody/queue"
)

// Keys that are alike in one of their parts, or have the same parts turned about.
var (
	keyA = api.Key{Account: 1, Asset: 0}
	keyB = api.Key{Account: 0, Asset: 1}
	keyC = api.Key{Account: 1, Asset: 1}
	keyD = api.Key{Account: -1, Asset: 1}
)

func keys(l ...api.Key) []api.Key { return l }

// call is one call, and what it answers, told by numbers.
type call struct {
	what string
	ask  func(q queued) []int
}

func bit(b bool) int {
	if b {
		return 1
	}
	return 0
}

// number is that of an error; -1: it isn't just one number, or tells a place.
func number(err error) int {
	var no api.Errno
	errors.As(err, &no)
	if !proof.Tells(err, no) {
		return -1
	}
	return int(no)
}

func put(id int, l ...api.Key) call {
	return call{fmt.Sprint("Put ", id, l), func(q queued) []int { return []int{number(q.Put(id, l))} }}
}

func touch(l ...api.Key) call {
	return call{fmt.Sprint("Touch ", l), func(q queued) []int { return []int{q.Touch(l)} }}
}

func take() call {
	return call{"Take", func(q queued) []int {
		id, ok := q.Take()
		return []int{id, bit(ok)}
	}}
}

func back(id int) call {
	return call{fmt.Sprint("Back ", id), func(q queued) []int { return []int{bit(q.Back(id))} }}
}

func remove(id int) call {
	return call{fmt.Sprint("Remove ", id), func(q queued) []int { return []int{bit(q.Remove(id))} }}
}

// seen is all that is seen of a queue without changing it.
func seen(q queued) [][]int {
	return [][]int{{q.Len(), bit(q.Full())}, q.Items(), q.Idle()}
}

// bared is all that a queue knows of its entries: what is seen, then who is ready, and who of all comes back ready. Behind that none is taken.
func bared(q queued) [][]int {
	l := seen(q)
	var ready, touched []int
	for id, ok := q.Take(); ok && len(ready) <= q.Len(); id, ok = q.Take() {
		ready = append(ready, id)
	}
	for _, id := range q.Items() {
		touched = append(touched, bit(q.Back(id)))
	}
	return append(l, ready, touched, []int{q.Len(), bit(q.Full())}, q.Items(), q.Idle())
}

// told is a row of calls as a text.
func told(calls []call) string {
	text := ""
	for _, c := range calls {
		text += c.what + "; "
	}
	return text
}

// tested is a queue of which each answer is held against one that is wanted.
type tested struct {
	t    *testing.T
	room int
	q    *queue.Queue
}

func newTested(t *testing.T, room int) tested { return tested{t, room, queue.New(room)} }

// put puts entries with keys.
func (x tested) put(id int, l ...api.Key) {
	x.t.Helper()
	if err := x.q.Put(id, l); err != nil {
		x.t.Errorf("Put(%d, %v) is %v", id, l, err)
	}
}

func (x tested) refuses(no api.Errno, id int, l ...api.Key) {
	x.t.Helper()
	if err := x.q.Put(id, l); !proof.Tells(err, no) {
		x.t.Errorf("Put(%d, %v) is %v, not %v", id, l, err, no)
	}
}

func (x tested) touch(want int, l ...api.Key) {
	x.t.Helper()
	if got := x.q.Touch(l); got != want {
		x.t.Errorf("Touch(%v) is %d, not %d", l, got, want)
	}
}

// take takes these, one behind the other.
func (x tested) take(ids ...int) {
	x.t.Helper()
	for _, want := range ids {
		if got, ok := x.q.Take(); got != want || !ok {
			x.t.Errorf("Take is %d %v, not %d", got, ok, want)
		}
	}
}

func (x tested) takeNone() {
	x.t.Helper()
	if got, ok := x.q.Take(); got != 0 || ok {
		x.t.Errorf("Take is %d %v, where none is ready", got, ok)
	}
}

func (x tested) back(want bool, ids ...int) {
	x.t.Helper()
	for _, id := range ids {
		if got := x.q.Back(id); got != want {
			x.t.Errorf("Back(%d) is %v", id, got)
		}
	}
}

func (x tested) remove(want bool, ids ...int) {
	x.t.Helper()
	for _, id := range ids {
		if got := x.q.Remove(id); got != want {
			x.t.Errorf("Remove(%d) is %v", id, got)
		}
	}
}

func ids(l ...int) []int { return l }

// holds tells whether these are all, and these the idle ones.
func (x tested) holds(all, idle []int) {
	x.t.Helper()
	want := [][]int{{len(all), bit(len(all) == max(x.room, 0))}, all, idle}
	if got := seen(x.q); !proof.SameLists(got, want) {
		x.t.Errorf("Len and Full, Items, Idle are %v, not %v", got, want)
	}
}
