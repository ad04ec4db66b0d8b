package queue_test

import (
	"math"
	"testing"

	"custody/api"
	"custody/proof"
	"custody/queue"
)

// TestNew is P19.1 and P19.7: a new queue has no entries, whatever is asked of it, and room for so many.
func TestNew(t *testing.T) {
	for _, room := range []int{math.MinInt, -2, -1, 0, 1, 2, 7, 256, math.MaxInt} {
		x := newTested(t, room)
		for range 2 {
			x.holds(ids(), ids())
			x.takeNone()
			x.touch(0)
			x.touch(0, keyA, keyB)
			x.back(false, math.MinInt, -1, 0, 1, math.MaxInt)
			x.remove(false, math.MinInt, -1, 0, 1, math.MaxInt)
		}
	}
}

// TestRoom is P19.1, P19.2 and P19.7: there is room for just so many; below 0 counts as 0.
func TestRoom(t *testing.T) {
	for _, room := range []int{math.MinInt, -1, 0, 1, 2, 3, 40, 256} {
		x := newTested(t, room)
		var all []int
		for id := range max(room, 0) {
			x.put(id, keyA)
			all = append(all, id)
			x.holds(all, all)
		}
		for range 2 {
			x.refuses(api.ErrFull, -5, keyA)
			x.refuses(api.ErrFull, 1000)
			x.holds(all, all)
		}
		x.touch(len(all), keyA)
		x.take(all...)
		x.takeNone()
		x.holds(all, ids())
		x.refuses(api.ErrFull, 1000, keyA)
	}
}

// TestMostRoom is P19.1: as much room as there can be takes no memory by itself.
func TestMostRoom(t *testing.T) {
	x := newTested(t, math.MaxInt)
	x.put(1, keyA)
	x.put(2)
	x.holds(ids(1, 2), ids(1, 2))
	x.touch(1, keyA)
	x.take(1)
}

// TestTwoQueues is P19.1: two queues beside one another, of the same ids and keys.
func TestTwoQueues(t *testing.T) {
	x, y := newTested(t, 2), newTested(t, 3)
	x.put(1, keyA)
	y.holds(ids(), ids())
	y.remove(false, 1)
	y.put(2, keyA)
	y.put(1, keyB)
	x.put(2, keyB)
	x.touch(1, keyA)
	y.holds(ids(2, 1), ids(2, 1))
	y.takeNone()
	x.take(1)
	y.back(false, 1)
	y.touch(2, keyA, keyB)
	x.back(false, 1)
	x.holds(ids(1, 2), ids(1, 2))
	y.take(2)
	y.remove(true, 2)
	x.remove(true, 1)
	x.touch(1, keyB)
	x.take(2)
	y.take(1)
	y.holds(ids(1), ids())
	x.holds(ids(2), ids())
}

// TestPut is P19.2: each stands behind all others, and is idle, whatever the others are.
func TestPut(t *testing.T) {
	x := newTested(t, 9)
	x.put(5, keyA)
	x.holds(ids(5), ids(5))
	x.put(3, keyA)
	x.holds(ids(5, 3), ids(5, 3))
	x.touch(2, keyA)
	x.put(4, keyA)
	x.holds(ids(5, 3, 4), ids(4))
	x.take(5)
	x.put(1, keyA)
	x.holds(ids(5, 3, 4, 1), ids(4, 1))
	x.touch(2, keyA)
	x.put(2, keyA)
	x.holds(ids(5, 3, 4, 1, 2), ids(2))
	x.take(3, 4, 1)
	x.takeNone()
	x.back(true, 5)
	x.back(false, 3, 4, 1)
	x.holds(ids(5, 3, 4, 1, 2), ids(3, 4, 1, 2))
}

// TestTouchedAhead is P19.2: what was touched ahead of the Put doesn't count.
func TestTouchedAhead(t *testing.T) {
	x := newTested(t, 3)
	x.touch(0, keyA, keyB)
	x.put(1, keyA)
	x.holds(ids(1), ids(1))
	x.takeNone()
	x.touch(1, keyA)
	x.put(2, keyA)
	x.holds(ids(1, 2), ids(2))
	x.take(1)
	x.takeNone()
}

// TestPutTwice is P19.2: of an id that is there, with room and without: ErrTwice comes first. Nothing is changed by it.
func TestPutTwice(t *testing.T) {
	for _, room := range []int{3, 4} {
		x := newTested(t, room)
		x.put(1, keyA)
		x.put(2, keyA)
		x.put(3, keyA)
		refuse := func() {
			t.Helper()
			before := seen(x.q)
			for _, id := range []int{1, 2, 3} {
				x.refuses(api.ErrTwice, id)
				x.refuses(api.ErrTwice, id, keyA)
				x.refuses(api.ErrTwice, id, keyB, keyC)
			}
			if room == 3 {
				x.refuses(api.ErrFull, 4, keyB)
			}
			if after := seen(x.q); !proof.SameLists(before, after) {
				t.Errorf("refusals made of %v %v", before, after)
			}
		}
		refuse()
		x.touch(0, keyB, keyC)
		x.touch(3, keyA)
		refuse()
		x.take(1)
		refuse()
		x.touch(0, keyB, keyC)
		x.back(false, 1)
		x.take(2)
		x.touch(1, keyA)
		refuse()
		x.back(true, 2)
		x.take(1, 2, 3)
		x.takeNone()
	}
}

// TestRefusedIsNotThere is P19.2: what was refused for want of room isn't there when there is room.
func TestRefusedIsNotThere(t *testing.T) {
	x := newTested(t, 1)
	x.put(1, keyA)
	x.refuses(api.ErrFull, 2, keyA, keyB)
	x.touch(1, keyA, keyB)
	x.remove(false, 2)
	x.remove(true, 1)
	x.holds(ids(), ids())
	x.touch(0, keyA, keyB)
	x.takeNone()
	x.put(2, keyC)
	x.touch(0, keyA, keyB)
	x.touch(1, keyC)
	x.take(2)
}

// TestPutNoKeys is P19.2 and P19.3: an entry without keys stays idle.
func TestPutNoKeys(t *testing.T) {
	x := newTested(t, 4)
	x.put(1)
	x.put(2, []api.Key{}...)
	x.put(3, keyA)
	x.touch(1, keyA, keyB, api.Key{})
	x.holds(ids(1, 2, 3), ids(1, 2))
	x.take(3)
	x.takeNone()
	x.back(false, 1, 2)
	x.refuses(api.ErrTwice, 1, keyA)
	x.remove(true, 1)
	x.put(1, keyA)
	x.touch(1, keyA)
	x.holds(ids(2, 3, 1), ids(2))
}

// TestPutKeyTwice is P19.2 and P19.10: a key that stands twice counts as once.
func TestPutKeyTwice(t *testing.T) {
	x := newTested(t, 4)
	x.put(1, keyA, keyA)
	x.put(2, keyB, keyA, keyB, keyA, keyB)
	x.touch(2, keyA)
	x.touch(0, keyA, keyB)
	x.take(1, 2)
	x.takeNone()
	x.touch(0, keyB)
	x.back(false, 1)
	x.back(true, 2)
	x.take(2)
	x.takeNone()
	x.remove(true, 1, 2)
	x.touch(0, keyA, keyB)
	x.takeNone()
	x.put(2, keyC)
	x.touch(0, keyA, keyB)
}

// TestAnyIds is P19.2 to P19.7: ids may be any.
func TestAnyIds(t *testing.T) {
	all := ids(0, math.MinInt, -1, math.MaxInt, 1, math.MinInt+1, math.MaxInt-1)
	x := newTested(t, len(all))
	for _, id := range all {
		x.put(id, keyA)
	}
	x.holds(all, all)
	for _, id := range all {
		x.refuses(api.ErrTwice, id, keyB)
	}
	x.touch(len(all), keyA)
	x.take(all...)
	x.takeNone()
	x.touch(0, keyA)
	x.back(true, all...)
	x.take(all...)
	x.back(false, all...)
	x.holds(all, all)
	x.remove(true, 0, math.MaxInt, math.MinInt)
	x.remove(false, 0, math.MaxInt, math.MinInt)
	x.holds(ids(-1, 1, math.MinInt+1, math.MaxInt-1), ids(-1, 1, math.MinInt+1, math.MaxInt-1))
}

// farKeys are keys that are unlike, as great as there are, negative, with parts alike and turned about.
func farKeys() []api.Key {
	parts := []int{0, 1, -1, 2, 256, 1 << 32, math.MaxInt, math.MinInt, math.MinInt + 1}
	var l []api.Key
	for _, account := range parts {
		for _, asset := range parts {
			l = append(l, api.Key{Account: account, Asset: asset})
		}
	}
	return l
}

// TestAnyKeys is P19.2 and P19.3: keys may be any, and each counts as a whole.
func TestAnyKeys(t *testing.T) {
	far := farKeys()
	x := newTested(t, len(far))
	for id, k := range far {
		x.put(id, k)
	}
	for id, k := range far {
		x.touch(1, k)
		x.take(id)
		x.takeNone()
		x.touch(0, k)
		x.back(true, id)
		x.take(id)
		x.back(false, id)
	}
	x.touch(len(far), far...)
	for id, k := range far {
		x.remove(true, id)
		x.touch(0, k)
	}
	x.holds(ids(), ids())
	x.put(7, far...)
	for _, k := range far {
		x.touch(1, k)
		x.take(7)
		x.back(false, 7)
	}
}

// TestTouch is P19.3: of no keys, of keys that none waits for, of one of several; how many became ready.
func TestTouch(t *testing.T) {
	x := newTested(t, 9)
	x.put(1, keyA)
	x.put(2, keyB)
	x.put(3, keyA, keyB)
	x.put(4, keyC)
	x.put(5, keyB, keyC, keyA)
	x.touch(0)
	x.touch(0, keyD)
	x.touch(0, api.Key{}, keyD, api.Key{Account: 2, Asset: 2})
	x.holds(ids(1, 2, 3, 4, 5), ids(1, 2, 3, 4, 5))
	x.touch(3, keyD, keyA)
	x.holds(ids(1, 2, 3, 4, 5), ids(2, 4))
	x.touch(0, keyA)
	x.touch(1, keyB)
	x.holds(ids(1, 2, 3, 4, 5), ids(4))
	x.touch(1, keyA, keyB, keyC)
	x.holds(ids(1, 2, 3, 4, 5), ids())
	x.touch(0, keyA, keyB, keyC)
	x.take(1, 2, 3, 4, 5)
	x.takeNone()
}

// TestTouchEach is P19.3: of entries that are idle, ready, taken, and taken and touched already, each becomes what it must, and the idle ones alone count.
func TestTouchEach(t *testing.T) {
	x := newTested(t, 9)
	for id := 1; id <= 4; id++ {
		x.put(id, keyA, api.Key{Account: 10, Asset: id})
	}
	own := func(id int) api.Key { return api.Key{Account: 10, Asset: id} }
	x.touch(1, own(4))
	x.take(4)
	x.touch(0, own(4))
	x.touch(1, own(3))
	x.take(3)
	x.touch(1, own(2))
	x.holds(ids(1, 2, 3, 4), ids(1))
	x.touch(1, keyA)
	x.holds(ids(1, 2, 3, 4), ids())
	x.touch(0, keyA)
	x.back(false, 1, 2)
	x.back(true, 3, 4)
	x.take(1, 2, 3, 4)
	x.takeNone()
	x.back(false, 1, 2, 3, 4)
	x.holds(ids(1, 2, 3, 4), ids(1, 2, 3, 4))
}

// TestTouchTwice is P19.3 and P19.10: a key twice in one list, and several keys of one entry, count it once.
func TestTouchTwice(t *testing.T) {
	x := newTested(t, 3)
	x.put(1, keyA, keyB, keyC)
	x.put(2, keyB)
	x.touch(2, keyA, keyB, keyA, keyC, keyB, keyB)
	x.take(1, 2)
	x.takeNone()
	x.touch(0, keyC, keyC)
	x.back(true, 1)
	x.back(false, 1, 2)
	x.take(1)
	x.takeNone()
}

// TestTake is P19.4: of several that are ready the one that was put first, whenever they became so.
func TestTake(t *testing.T) {
	own := func(id int) api.Key { return api.Key{Account: id, Asset: -id} }
	x := newTested(t, 9)
	for _, id := range []int{4, 1, 5, 2, 3} {
		x.put(id, own(id))
	}
	x.touch(1, own(3))
	x.touch(1, own(5))
	x.touch(1, own(4))
	x.holds(ids(4, 1, 5, 2, 3), ids(1, 2))
	x.take(4)
	x.touch(1, own(1))
	x.take(1, 5)
	x.touch(1, own(2))
	x.take(2, 3)
	x.takeNone()
	x.takeNone()
	x.holds(ids(4, 1, 5, 2, 3), ids())
}

// TestTakeForgetsTouches is P19.4: what is taken is not touched, whatever was touched ahead of that.
func TestTakeForgetsTouches(t *testing.T) {
	x := newTested(t, 2)
	x.put(1, keyA, keyB)
	x.touch(1, keyA)
	x.touch(0, keyB)
	x.touch(0, keyA)
	x.take(1)
	x.back(false, 1)
	x.touch(1, keyA)
	x.take(1)
	x.touch(0, keyB)
	x.back(true, 1)
	x.touch(0, keyA)
	x.take(1)
	x.back(false, 1)
	x.holds(ids(1), ids(1))
	x.takeNone()
}

// TestBack is P19.5: of one that was touched while it was taken, and of one that was not; its place stays.
func TestBack(t *testing.T) {
	x := newTested(t, 4)
	for id := 1; id <= 4; id++ {
		x.put(id, keyA, api.Key{Account: 10, Asset: id})
	}
	x.touch(4, keyA)
	x.take(1, 2, 3)
	x.touch(0, api.Key{Account: 10, Asset: 2})
	x.back(false, 3)
	x.holds(ids(1, 2, 3, 4), ids(3))
	x.back(true, 2)
	x.holds(ids(1, 2, 3, 4), ids(3))
	x.back(false, 1)
	x.holds(ids(1, 2, 3, 4), ids(1, 3))
	x.take(2, 4)
	x.takeNone()
	x.touch(2, keyA)
	x.back(true, 4, 2)
	x.take(1, 2, 3, 4)
	x.takeNone()
}

// TestBackOfOthers is P19.5: of an idle one, a ready one, one that isn't there, and again: false, and nothing changes.
func TestBackOfOthers(t *testing.T) {
	x := newTested(t, 4)
	x.put(1, keyA)
	x.put(2, keyB)
	x.back(false, 1, 2, 3, 0)
	x.touch(1, keyA)
	x.back(false, 1, 2, 3)
	x.holds(ids(1, 2), ids(2))
	x.take(1)
	x.touch(1, keyA, keyB)
	x.back(false, 2, 3)
	x.back(true, 1)
	x.back(false, 1, 1, 2)
	x.holds(ids(1, 2), ids())
	x.take(1, 2)
	x.back(false, 1)
	x.back(false, 1)
	x.holds(ids(1, 2), ids(1))
	x.takeNone()
}

// TestRemove is P19.6: an idle one, a ready one, a taken one, one that is taken and touched; one that isn't there.
func TestRemove(t *testing.T) {
	own := func(id int) api.Key { return api.Key{Account: 10, Asset: id} }
	x := newTested(t, 5)
	for id := 1; id <= 5; id++ {
		x.put(id, keyA, own(id))
	}
	x.touch(2, own(2), own(3))
	x.take(2, 3)
	x.touch(1, own(3), own(4))
	x.holds(ids(1, 2, 3, 4, 5), ids(1, 5))
	x.remove(false, 0, 6, -1)
	for n, id := range []int{3, 1, 4, 2} {
		x.remove(true, id)
		x.remove(false, id)
		x.back(false, id)
		x.holds([][]int{{1, 2, 4, 5}, {2, 4, 5}, {2, 5}, {5}}[n], [][]int{{1, 5}, {5}, {5}, {5}}[n])
		x.touch(0, own(id))
	}
	x.takeNone()
	x.touch(1, keyA)
	x.take(5)
	x.remove(true, 5)
	x.holds(ids(), ids())
	x.touch(0, keyA)
	x.takeNone()
}

// TestRemoveFirstReady is P19.4 and P19.6: Take goes by those that are left.
func TestRemoveFirstReady(t *testing.T) {
	for gone := 1; gone <= 4; gone++ {
		x := newTested(t, 4)
		var left []int
		for id := 1; id <= 4; id++ {
			x.put(id, keyA)
			if id != gone {
				left = append(left, id)
			}
		}
		x.touch(4, keyA)
		x.remove(true, gone)
		x.holds(left, ids())
		x.take(left...)
		x.takeNone()
	}
}

// TestPutAgain is P19.6: an id that was removed, as what it was, is put as a new entry: idle, behind all others, with its own keys alone.
func TestPutAgain(t *testing.T) {
	for _, was := range []string{"idle", "ready", "taken", "touched"} {
		x := newTested(t, 2)
		x.put(1, keyA, keyB)
		x.put(2, keyD)
		if was != "idle" {
			x.touch(1, keyA)
		}
		if was == "taken" || was == "touched" {
			x.take(1)
		}
		if was == "touched" {
			x.touch(0, keyB)
		}
		x.remove(true, 1)
		x.put(1, keyB, keyC)
		x.holds(ids(2, 1), ids(2, 1))
		x.takeNone()
		x.back(false, 1)
		x.touch(0, keyA)
		x.touch(2, keyC, keyD)
		x.take(2, 1)
		x.touch(0, keyA)
		x.back(false, 1)
		x.touch(1, keyB)
		x.refuses(api.ErrTwice, 1)
		x.refuses(api.ErrFull, 3)
		if t.Failed() {
			t.Fatalf("so of one that was %s", was)
		}
	}
}

// TestFull is P19.7: Full behind each Put and Remove; Take, Back and Touch make no room.
func TestFull(t *testing.T) {
	x := newTested(t, 2)
	x.put(1, keyA)
	x.holds(ids(1), ids(1))
	x.put(2, keyA)
	x.holds(ids(1, 2), ids(1, 2))
	x.touch(2, keyA)
	x.holds(ids(1, 2), ids())
	x.take(1, 2)
	x.holds(ids(1, 2), ids())
	x.refuses(api.ErrFull, 3, keyA)
	x.back(false, 1)
	x.holds(ids(1, 2), ids(1))
	x.refuses(api.ErrFull, 3, keyA)
	x.remove(true, 2)
	x.holds(ids(1), ids(1))
	x.put(3, keyA)
	x.holds(ids(1, 3), ids(1, 3))
	x.refuses(api.ErrFull, 2, keyA)
}

// TestNotNil: the queue of no room is one too.
func TestNotNil(t *testing.T) {
	if queue.New(0) == nil || queue.New(-1) == nil {
		t.Error("New is nil")
	}
}
