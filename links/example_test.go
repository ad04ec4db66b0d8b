package links_test

import (
	"testing"

	"custody/api"
	"custody/proof"
)

// TestExamples goes through the chapter's examples.
func TestExamples(t *testing.T) {
	grouped(t, 5, pairs(3, 1, 4, 3), ints(0, 1, 2, 1, 1), nil)
	grouped(t, 2, pairs(0, 1, 0, 2), nil, lostAt(1))
	grouped(t, -1, nil, nil, api.ErrArg)

	ordered(t, 4, pairs(2, 0), ints(9, 1, 1, 5), ints(3, 1, 2, 0), nil)
	ordered(t, 3, pairs(0, 1, 1, 2, 2, 1), ints(0, 0, 0), nil, api.ErrLoop)
	ordered(t, 2, nil, ints(1), nil, api.ErrShort)

	rings(t, 5, pairs(4, 1, 1, 3, 3, 4, 1, 4, 0, 1), 1, 4)
	rings(t, 3, pairs(2, 2, 0, 1), 2)
	rings(t, 2, pairs(0, 1, 1, 5))

	resolved(t, []api.Notice{notice("A", 1, with("C")), notice("B", 2, after("A")), notice("C", 0)}, [][]int{{0, 2}, {1}}, nil)
	resolved(t, []api.Notice{notice("A", 0, before("B")), notice("B", 0, before("A"))}, nil, api.ErrLoop)
	resolved(t, []api.Notice{notice("A", 0, with("X"))}, nil, api.Fault{No: api.ErrLost})

	there, back := proof.Leg(1, 2, 3, 5, 0), proof.Leg(2, 1, 0, 7, 0)
	pooled(t, [][]api.Leg{{there}, {back, proof.Leg(1, 2, 3, 4, 0)}}, []api.Leg{proof.Leg(1, 2, 3, 9, 0), back}, nil)
}
