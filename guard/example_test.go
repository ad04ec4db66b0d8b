package guard_test

import (
	"testing"

	"custody/api"
)

// The chapter's examples, in their order.

func TestExamplesDecode(t *testing.T) {
	reads(t, []read{
		{nil, api.Op{}, api.ErrShort},
		{[]int64{0}, api.Op{}, api.ErrCode},
		{[]int64{9}, api.Op{}, api.ErrCode},
		{[]int64{1, 0, 1}, api.Op{}, api.ErrShort},
		{[]int64{1, 0, 1, 5, 6}, api.Op{}, api.ErrLong},
		{[]int64{1, 0, 1, 5}, held(api.OpDeposit, 0, 1, 5), api.OK},
		{[]int64{5}, api.Op{}, api.ErrShort},
		{[]int64{5, 7}, submit(7), api.OK},
		{[]int64{5, 7, 0, 1, 0, 9, 0}, submit(7, leg(0, 1, 0, 9, 0)), api.OK},
		{[]int64{5, 7, 0, 1, 0, 9}, api.Op{}, api.ErrShort},
		{[]int64{8}, snapshot(), api.OK},
		{[]int64{8, 0, 1}, snapshot(0, 1), api.OK},
		{[]int64{8, 0}, api.Op{}, api.ErrShort},
	})
}

func TestExamplesCheck(t *testing.T) {
	looks(t, small(), []looked{
		{held(api.OpDeposit, 3, 2, 0), api.ErrAccount},
		{held(api.OpDeposit, 2, 2, 0), api.ErrAsset},
		{held(api.OpDeposit, 2, 1, 0), api.ErrAmount},
		{held(api.OpDeposit, 2, 1, 1), api.OK},
		{marked(api.OpMark, 0, 0, 5, 0), api.ErrMark},
		{marked(api.OpMark, 0, 0, 5, 65537), api.ErrMark},
		{submit(0), api.ErrArg},
		{submit(1), api.ErrShort},
		{submit(1, times(5, leg(0, 1, 0, 1, 0))...), api.ErrMany},
		{submit(1, leg(0, 0, 9, 0, 0)), api.ErrSame},
		{submit(1, leg(0, 1, 9, 0, 0)), api.ErrAsset},
		{submit(1, leg(0, 1, 0, 1, -1)), api.ErrMark},
		{api.Op{Code: api.OpCancel, Id: 1 << 40}, api.OK},
		{api.Op{Code: api.OpCancel, Id: 1<<40 + 1}, api.ErrArg},
		{snapshot(), api.OK},
		{api.Op{}, api.ErrCode},
	})
}
