package partial_test

import (
	"testing"

	"custody/api"
)

// TestExamples goes through the chapter's examples, and the document's of the whole.
func TestExamples(t *testing.T) {
	part(t, 100, 30, 0, 99, 90, api.OK)
	part(t, 100, 30, 0, 100, 100, api.OK)
	part(t, 100, 30, 0, 29, 0, api.OK)
	part(t, 100, 30, 61, 89, 0, api.OK)
	part(t, 100, 30, 61, 95, 90, api.OK)
	part(t, 20, 30, 61, 20, 20, api.OK)
	part(t, 0, 30, 0, 5, 0, api.OK)
	part(t, 5, 0, 0, 5, 0, api.ErrArg)

	costs(t, 3, 10, 0, 1, 3, api.OK)
	costs(t, 3, 10, 1, 1, 3, api.OK)
	costs(t, 3, 10, 2, 1, 4, api.OK)
	costs(t, 3, 10, 2, 2, 0, api.ErrArg)
	costs(t, 0, 10, 0, 0, 0, api.ErrArg)
	costs(t, most, most, 5, 7, 7, api.OK)

	o := ordered(t, 100, 1000, 10, 20)
	takes(t, o, asks{35, 10000, 30, 300})
	takes(t, o, asks{15, 10000, 0, 0})
	takes(t, o, asks{70, 255, 20, 200})
	shows(t, o, 50, 500, pair{30, 300}, pair{20, 200})
	takes(t, o, asks{50, 499, 40, 400})
	takes(t, o, asks{50, 500, 10, 100})
	shows(t, o, 0, 0, pair{30, 300}, pair{20, 200}, pair{40, 400}, pair{10, 100})

	first, second := api.Leg{From: 1, To: 2, Asset: 5, Qty: 10}, api.Leg{From: 2, To: 1, Asset: 0, Qty: 70}
	legs(t, 1, 2, 5, 0, 10, 70, []api.Leg{first, second}, api.OK)
	legs(t, 1, 2, 5, 0, 10, 0, []api.Leg{first}, api.OK)
	wrongLegs(t, 1, 1, 5, 0, 10, 0, api.ErrSame)
	wrongLegs(t, 1, 2, 5, 5, 10, 0, api.ErrAsset)

	o = ordered(t, 100, 1001, 10, 0)
	takes(t, o, asks{35, 1000000, 30, 300})
	takes(t, o, asks{100, 1000000, 70, 701})
}
