package margin_test

import (
	"math"
	"testing"

	"custody/api"
)

// TestExamples goes through the chapter's examples.
func TestExamples(t *testing.T) {
	returns(t, quotes(1, 100, 2, 150, 5, 75), row(0.5, -0.5), api.OK)
	returns(t, quotes(2, 1, 2, 0), nil, api.ErrArg)
	returns(t, quotes(2, 1, 2, 1), nil, api.ErrDate)
	returns(t, quotes(2, 1), nil, api.ErrShort)

	means(t, row(1, 2, 4, 5), 3, api.OK)
	deviates(t, row(1, 3), 1, api.OK)
	smooths(t, row(3, 4), 0.5, math.Sqrt(12.5), api.OK)
	smooths(t, row(3), nan, 0, api.ErrArg)

	cuts(t, 0.01, 4, 50, 200, api.OK)
	cuts(t, 0.01, 4, 250, 250, api.OK)
	cuts(t, 2, 1, 0, 10000, api.OK)
	cuts(t, 0.00001, 1, 0, 1, api.OK)

	betas(t, row(2, 4, 6), row(1, 2, 3), 2, api.OK)
	betas(t, row(1, 2), row(5, 5), 0, api.ErrLost)
	betas(t, row(1, 2), row(5), 0, api.ErrArg)

	spreads(t, row(1, 2, 3, 4), []complex128{10, complex(-2, 2), -2, complex(-2, -2)}, api.OK)
	spreads(t, row(1, 2, 3), nil, api.ErrArg)
	spreads(t, nil, nil, api.ErrShort)
	goesRound(t, row(1, 2, 3, 4), 1, api.OK)
	goesRound(t, row(5, 5), 0, api.ErrLost)
	goesRound(t, row(7), 0, api.ErrLost)

	p := pool(10, 12345, 500)
	worth(t, p, 2, 1172, api.OK)
	limits(t, pools(p, p), 2, 2344, api.OK)

	l := pools(pool(10, 100, 1000), pool(5, 100, 0))
	draws(t, l, 600, 0, amounts(2, 5), api.OK)
	draws(t, l, 1401, 0, nil, api.ErrCover)
	draws(t, l, 1400, 0, amounts(10, 5), api.OK)
	draws(t, l, 0, 0, amounts(0, 0), api.OK)
}
