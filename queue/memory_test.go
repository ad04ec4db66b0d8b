package queue_test

import (
	"math"
	"runtime"
	"slices"
	"testing"

	"custody/api"
	"custody/proof"
	"custody/queue"
)

// TestKeysAreNotChanged is R4: what is handed to Put and Touch stays as it is, its spare room too.
func TestKeysAreNotChanged(t *testing.T) {
	junk := api.Key{Account: -99, Asset: -98}
	for _, l := range [][]api.Key{{}, {keyA}, {keyB, keyA}, {keyC, keyA, keyC, keyB, keyA}} {
		handed := proof.Room(l, junk)
		want := slices.Clone(proof.Whole(handed))
		q := queue.New(1)
		for _, c := range []call{put(1, handed...), put(1, handed...), put(2, handed...), touch(handed...), take(), touch(handed...), back(1), remove(1), put(2, handed...)} {
			c.ask(q)
			if got := proof.Whole(handed); !slices.Equal(got, want) {
				t.Fatalf("%s made of %v %v", c.what, want, got)
			}
		}
	}
}

// TestKeysAreNotKept is R4: who handed keys in may write over them and their spare room.
func TestKeysAreNotKept(t *testing.T) {
	d := proof.Dice(8)
	for range 200 {
		q, b := queue.New(20), newBook(20)
		handed := proof.Room(make([]api.Key, 4), api.Key{})
		for range 100 {
			l := handed[:copy(handed, throwKeys(&d, 6, 4))]
			id := d.Below(25)
			c := proof.Of(&d, put(id, l...), touch(l...), take(), back(id), remove(id))
			got, want := c.ask(q), c.ask(b)
			proof.SpoilKeys(handed)
			if !slices.Equal(got, want) || !proof.SameLists(seen(q), seen(b)) {
				t.Fatalf("%s is %v, not %v; seen is %v, not %v", c.what, got, want, seen(q), seen(b))
			}
		}
	}
}

// TestAnswersAreNew is R4: who asked may write over the answers and their spare room, and they stay as they are when the queue is changed.
func TestAnswersAreNew(t *testing.T) {
	for _, count := range []int{0, 1, 2, 3, 5, 64, 100} {
		q := queue.New(200)
		var all []int
		for id := range count {
			q.Put(id, []api.Key{keyA})
			all = append(all, id)
		}
		for range 2 {
			items, idle, more, still := q.Items(), q.Idle(), q.Items(), q.Idle()
			proof.Overwrite(items, -7)
			proof.Overwrite(idle, -7)
			if !slices.Equal(more, all) || !slices.Equal(still, all) || !slices.Equal(q.Items(), all) || !slices.Equal(q.Idle(), all) {
				t.Fatalf("of %d: other answers are %v and %v", count, more, still)
			}
		}
		items, idle := q.Items(), q.Idle()
		q.Put(500, nil)
		q.Touch([]api.Key{keyA})
		q.Take()
		for id := range count {
			q.Remove(id)
		}
		q.Put(501, nil)
		if !slices.Equal(items, all) || !slices.Equal(idle, all) {
			t.Fatalf("answers of %d became %v and %v", count, items, idle)
		}
	}
}

// TestAnswersBetween is R4: answers stay as they are, whatever is done with the queue meanwhile.
func TestAnswersBetween(t *testing.T) {
	d := proof.Dice(9)
	q, b := queue.New(12), newBook(12)
	var got, want [][]int
	for range 600 {
		c := throwCall(&d, 16, 5)
		c.ask(q)
		c.ask(b)
		got, want = append(got, q.Items(), q.Idle()), append(want, b.Items(), b.Idle())
	}
	for at := range got {
		if !slices.Equal(got[at], want[at]) {
			t.Fatalf("answer %d is %v, not %v", at, got[at], want[at])
		}
	}
}

// inUse is how many bytes are kept.
func inUse() int {
	runtime.GC()
	var m runtime.MemStats
	runtime.ReadMemStats(&m)
	return int(m.HeapAlloc)
}

// TestRemovedIsNotKept: of entries that are gone, and of keys that none waits for, nothing is kept.
func TestRemovedIsNotKept(t *testing.T) {
	q := queue.New(3)
	q.Put(-1, []api.Key{keyA})
	old := inUse()
	for id := range 200000 {
		l := []api.Key{keyA, {Account: id, Asset: 3}, {Account: id, Asset: 4}}
		q.Put(id, l)
		q.Put(id, l)
		q.Put(-2, l)
		q.Put(-3, l)
		q.Touch(l[id%2:])
		if id%3 > 0 {
			q.Take()
		}
		if id%3 > 1 {
			q.Touch(l)
		}
		q.Remove(id)
		q.Remove(-2)
		q.Touch([]api.Key{{Account: -id, Asset: 5}})
	}
	if more := inUse() - old; more > 1<<20 || q.Len() != 1 {
		t.Errorf("%d bytes are kept of what is gone; Len is %d", more, q.Len())
	}
	runtime.KeepAlive(q)
}

// TestKeyTwiceIsKeptOnce is P19.10: of keys that stand there again and again no more is kept than of each once.
func TestKeyTwiceIsKeptOnce(t *testing.T) {
	old := inUse()
	x := newTested(t, 3)
	for id := range 3 {
		x.put(id, slices.Repeat(keys(keyA, keyB, keyC, keyD), 100000)...)
	}
	if more := inUse() - old; more > 1<<20 {
		t.Errorf("%d bytes are kept of four keys", more)
	}
	x.touch(3, keyD)
	x.take(0, 1, 2)
}

// TestManyEntries: in a great queue, whose entries share one key and have one of their own, all goes in the order in which they were put.
func TestManyEntries(t *testing.T) {
	const many = 100000
	own := func(id int) []api.Key { return []api.Key{{Account: id, Asset: -id}} }
	x := newTested(t, math.MaxInt)
	var all []int
	for n := range many {
		id := n * 7919 % many // unlike, and not rising
		x.put(id, append(own(id), keyD)...)
		all = append(all, id)
	}
	x.holds(all, all)
	x.touch(many, keyD)
	x.take(all...)
	x.takeNone()
	x.touch(0, own(all[many-1])...)
	x.back(false, all[:many-1]...)
	x.back(true, all[many-1])
	x.take(all[many-1])
	x.holds(all, all[:many-1])
	for n := many - 2; n >= 0; n -= 100 {
		x.touch(1, own(all[n])...)
	}
	for n := (many - 2) % 100; n < many-1; n += 100 {
		x.take(all[n])
	}
	x.takeNone()
	idle := x.q.Idle()
	if len(idle) != many-1-many/100 {
		t.Errorf("%d are idle", len(idle))
	}
	x.remove(true, all[:many/2]...)
	x.holds(all[many/2:], idle[len(idle)-len(x.q.Idle()):])
	x.remove(true, all[many/2:]...)
	x.holds(ids(), ids())
}
