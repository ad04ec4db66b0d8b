package queue_test

import (
	"testing"

	"custody/api"
)

// TestExamples goes through the chapter's examples, one call behind the other.
func TestExamples(t *testing.T) {
	x := newTested(t, 3)
	x.put(7, keyA, keyB)
	x.refuses(api.ErrTwice, 7, keyC)
	x.put(5, keyB)
	x.put(9, keyC)
	x.refuses(api.ErrFull, 1, keyA)

	x.takeNone()
	x.touch(0)
	x.touch(2, keyB)
	x.touch(0, keyB, keyA)

	x.holds(ids(7, 5, 9), ids(9))

	x.take(7)
	x.touch(1, keyA, keyC)
	x.holds(ids(7, 5, 9), ids())

	x.back(true, 7)
	x.back(false, 7)
	x.back(false, 5)

	x.take(7, 5)
	x.back(false, 7)
	x.take(9)
	x.takeNone()

	x.remove(true, 5)
	x.back(false, 5)
	x.remove(false, 5)
	x.put(5, keyA)
	x.holds(ids(7, 9, 5), ids(7, 5))

	x.touch(2, keyA)
	x.holds(ids(7, 9, 5), ids())
}
