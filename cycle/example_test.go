package cycle_test

import (
	"testing"

	"custody/api"
)

// TestExamples goes through the chapter's examples.
func TestExamples(t *testing.T) {
	one, two, three := wish(1, leg(1, 2, 0, 5)), wish(2, leg(2, 3, 0, 5)), wish(3, leg(3, 1, 0, 5))
	four := wish(4, leg(1, 2, 0, 5), leg(2, 1, 9, 70))

	ring := wishes(one, two, three)
	feasible(t, nil, ring, true, api.OK)
	chooses(t, nil, ring, ints(1, 2, 3), api.OK)
	settles(t, nil, ring, nil, api.OK)
	rings(t, nil, ring, [][]int{{1, 2, 3}}, api.OK)

	feasible(t, nil, wishes(one, two), false, api.OK)
	chooses(t, nil, wishes(one, two), nil, api.OK)
	rings(t, nil, wishes(one, two), nil, api.OK)

	five := balances(held(1, 0, pos(5)))
	feasible(t, five, wishes(one, two), true, api.OK)
	chooses(t, five, wishes(one, two), ints(1, 2), api.OK)
	settles(t, five, wishes(one, two), balances(held(3, 0, pos(5))), api.OK)

	both := balances(held(1, 0, pos(5)), held(2, 9, pos(70)))
	urgent := ranked(4, 1, 0, four.Legs...)
	feasible(t, both, wishes(one, urgent), false, api.OK)
	chooses(t, both, wishes(one, urgent), ints(4), api.OK)
	chooses(t, both, wishes(ranked(1, 0, 1, one.Legs...), ranked(4, 0, 2, four.Legs...)), ints(1), api.OK)

	feasible(t, balances(held(1, 0, pos(0, 7, 5))), wishes(one), false, api.OK)

	full := balances(held(1, 0, pos(5)), held(2, 0, pos(most)))
	feasible(t, full, wishes(one), false, api.OK)
	settles(t, full, wishes(one), nil, api.ErrOver)

	nets(t, wishes(one, four), balances(held(1, 0, pos(-10)), held(1, 9, pos(70)), held(2, 0, pos(10)), held(2, 9, pos(-70))), api.OK)
}
