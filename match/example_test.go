package match_test

import (
	"testing"

	"custody/api"
)

// TestExamples goes through the chapter's examples, one call behind the other.
func TestExamples(t *testing.T) {
	fits(t, 5000, d("D1"), r("R1"), bics, 200)
	parts(t, r("R1"), d("D1"), bics, 200)
	parts(t, d("D1"), r("R1"), bics, 99)

	x := newTested(t)
	x.add(0, -1, r("R1"))
	x.alleged(0, 0)
	x.add(1, 0, d("D1"))
	x.open()
	x.pairs(pair(1, 0, 5000))

	x.refuses(api.ErrTwice, d("D1"))
	x.refuses(api.ErrKind, d("D1", cancellation))
	x.refuses(api.ErrLost, d("D1", from(2)))

	x.cancel(false, 0, "D1")
	x.cancel(false, 0, "D1")
	x.keeps(api.ErrLost, 0, "R1")
	x.cancel(true, 1, "R1")
	x.keeps(api.ErrFinal, 1, "R1")
	x.pairs()

	x.add(2, -1, r("R2"))
	x.add(3, -1, r("R3"))
	x.add(4, 1, d("D2"))

	x.open(3)
	x.side(1, d("D1"))
	x.noSide(9)
}
