package guard_test

import (
	"slices"
	"testing"

	"custody/api"
	"custody/guard"
	"custody/proof"
)

// small is the configuration of the chapter's examples.
func small() api.Config { return api.Config{Accounts: 3, Assets: 2} }

var (
	held     = proof.Held
	marked   = proof.Marked
	leg      = proof.Leg
	submit   = proof.Submit
	snapshot = proof.Snapshot
)

// times is a list of one thing so many times.
func times[T any](n int, x T) []T { return slices.Repeat([]T{x}, n) }

// looked is an operation with what is wrong with it.
type looked struct {
	o  api.Op
	no api.Errno
}

func looks(t *testing.T, c api.Config, l []looked) {
	t.Helper()
	for _, x := range l {
		if err := guard.Check(c, x.o); !proof.Tells(err, x.no) {
			t.Errorf("Check(%+v, %+v) is %v; want %v", c, x.o, err, x.no)
		}
	}
}

func TestCheckHeld(t *testing.T) {
	for code := api.OpDeposit; code <= api.OpUnmark; code++ {
		of := func(account, asset int, qty int64) api.Op { return marked(code, account, asset, qty, 1) }
		looks(t, small(), []looked{
			{of(0, 0, 1), api.OK}, {of(2, 1, 1), api.OK}, {of(1, 0, most), api.OK}, {of(2, 1, most), api.OK}, {of(0, 0, 2), api.OK},
			// each alone
			{of(-1, 0, 1), api.ErrAccount}, {of(3, 0, 1), api.ErrAccount}, {of(4, 0, 1), api.ErrAccount}, {of(least, 0, 1), api.ErrAccount}, {of(most, 0, 1), api.ErrAccount}, {of(1<<32, 0, 1), api.ErrAccount},
			{of(0, -1, 1), api.ErrAsset}, {of(0, 2, 1), api.ErrAsset}, {of(0, 3, 1), api.ErrAsset}, {of(0, least, 1), api.ErrAsset}, {of(0, most, 1), api.ErrAsset}, {of(0, 1<<32, 1), api.ErrAsset},
			{of(0, 0, 0), api.ErrAmount}, {of(0, 0, -1), api.ErrAmount}, {of(0, 0, least), api.ErrAmount}, {of(2, 1, least+1), api.ErrAmount},
			// each ahead of the next
			{of(3, 2, 1), api.ErrAccount}, {of(-1, -1, 1), api.ErrAccount}, {of(3, 0, 0), api.ErrAccount}, {of(-1, 2, -1), api.ErrAccount},
			{of(2, 2, 0), api.ErrAsset}, {of(0, -1, -1), api.ErrAsset},
		})
	}
}

func TestCheckMarked(t *testing.T) {
	for _, code := range []int{api.OpMark, api.OpUnmark} {
		looks(t, small(), []looked{
			{marked(code, 0, 0, 1, 1), api.OK}, {marked(code, 2, 1, most, 65536), api.OK}, {marked(code, 0, 0, 1, 65535), api.OK}, {marked(code, 0, 0, 1, 2), api.OK},
			{marked(code, 0, 0, 1, 0), api.ErrMark}, {marked(code, 0, 0, 1, -1), api.ErrMark}, {marked(code, 0, 0, 1, 65537), api.ErrMark},
			{marked(code, 0, 0, 1, least), api.ErrMark}, {marked(code, 0, 0, 1, most), api.ErrMark}, {marked(code, 0, 0, 1, 1<<32+1), api.ErrMark},
			{marked(code, 3, 0, 1, 0), api.ErrAccount}, {marked(code, 0, 2, 1, 65537), api.ErrAsset}, {marked(code, 0, 0, 0, -1), api.ErrAmount}, {marked(code, 3, 2, 0, 0), api.ErrAccount},
		})
	}
	// a Deposit and a Withdraw have no name
	for _, code := range []int{api.OpDeposit, api.OpWithdraw} {
		for _, name := range []int{0, -1, 1, 65537, least, most} {
			looks(t, small(), []looked{{marked(code, 0, 0, 1, name), api.OK}})
		}
	}
}

// ids are numbers of instructions at their edges, with what is wrong with them.
func ids() map[int]api.Errno {
	return map[int]api.Errno{
		1: api.OK, 2: api.OK, 1 << 32: api.OK, 1<<40 - 1: api.OK, 1 << 40: api.OK,
		0: api.ErrArg, -1: api.ErrArg, 1<<40 + 1: api.ErrArg, least: api.ErrArg, most: api.ErrArg, -1 << 40: api.ErrArg,
	}
}

func TestCheckIds(t *testing.T) {
	good := leg(0, 1, 0, 1, 0)
	for id, no := range ids() {
		looks(t, small(), []looked{{api.Op{Code: api.OpCancel, Id: id}, no}, {api.Op{Code: api.OpStatus, Id: id}, no}, {submit(id, good), no}})
		if no == api.ErrArg { // ahead of all else that is wrong with a Submit
			looks(t, small(), []looked{{submit(id), no}, {submit(id, times(5, good)...), no}, {submit(id, leg(3, 3, 2, 0, -1)), no}})
		}
	}
}

func TestCheckHowManyLegs(t *testing.T) {
	good, bad := leg(0, 1, 0, 1, 0), leg(3, 3, 2, 0, -1)
	looks(t, small(), []looked{
		{submit(1), api.ErrShort}, {submit(1, []api.Leg{}...), api.ErrShort}, {submit(1<<40, make([]api.Leg, 0, 7)...), api.ErrShort},
		{submit(1, times(1, good)...), api.OK}, {submit(1, times(2, good)...), api.OK}, {submit(1, times(3, good)...), api.OK}, {submit(1<<40, times(4, good)...), api.OK},
		{submit(1, times(5, good)...), api.ErrMany}, {submit(1, times(6, good)...), api.ErrMany}, {submit(1, times(100000, good)...), api.ErrMany},
		{submit(1, times(4, bad)...), api.ErrAccount}, {submit(1, times(5, bad)...), api.ErrMany}, // ahead of what is wrong with a leg
	})
}

// wrongLegs are legs with what is wrong with them in the small configuration.
func wrongLegs() map[api.Leg]api.Errno {
	return map[api.Leg]api.Errno{
		leg(0, 1, 0, 1, 0): api.OK, leg(2, 0, 1, most, 65536): api.OK, leg(1, 2, 0, 2, 1): api.OK, leg(0, 2, 1, 1, 65535): api.OK,
		// each alone
		leg(-1, 1, 0, 1, 0): api.ErrAccount, leg(3, 1, 0, 1, 0): api.ErrAccount, leg(least, 1, 0, 1, 0): api.ErrAccount, leg(most, 1, 0, 1, 0): api.ErrAccount,
		leg(0, -1, 0, 1, 0): api.ErrAccount, leg(0, 3, 0, 1, 0): api.ErrAccount, leg(0, least, 0, 1, 0): api.ErrAccount, leg(0, most, 0, 1, 0): api.ErrAccount,
		leg(0, 0, 0, 1, 0): api.ErrSame, leg(2, 2, 1, 1, 7): api.ErrSame,
		leg(0, 1, -1, 1, 0): api.ErrAsset, leg(0, 1, 2, 1, 0): api.ErrAsset, leg(0, 1, least, 1, 0): api.ErrAsset, leg(0, 1, most, 1, 0): api.ErrAsset,
		leg(0, 1, 0, 0, 0): api.ErrAmount, leg(0, 1, 0, -1, 0): api.ErrAmount, leg(0, 1, 0, least, 0): api.ErrAmount,
		leg(0, 1, 0, 1, -1): api.ErrMark, leg(0, 1, 0, 1, 65537): api.ErrMark, leg(0, 1, 0, 1, least): api.ErrMark, leg(0, 1, 0, 1, most): api.ErrMark,
		// each ahead of the next
		leg(3, 3, 0, 1, 0): api.ErrAccount, leg(-1, -1, 9, 0, -1): api.ErrAccount, leg(3, 0, 2, 0, -1): api.ErrAccount, leg(0, 3, 2, 0, -1): api.ErrAccount,
		leg(0, 0, 2, 1, 0): api.ErrSame, leg(0, 0, 0, 0, 0): api.ErrSame, leg(0, 0, 0, 1, -1): api.ErrSame, leg(2, 2, 9, -1, 65537): api.ErrSame,
		leg(0, 1, 2, 0, 0): api.ErrAsset, leg(0, 1, -1, 1, -1): api.ErrAsset,
		leg(0, 1, 0, 0, -1): api.ErrAmount, leg(0, 1, 0, -1, 65537): api.ErrAmount,
	}
}

// P16.7: of each leg the same is told at each place behind good ones, whatever stands behind it.
func TestCheckLegs(t *testing.T) {
	good := leg(0, 1, 0, 1, 0)
	for l, no := range wrongLegs() {
		for ahead := range 4 {
			for after := range 4 - ahead {
				legs := append(append(times(ahead, good), l), times(after, good)...)
				looks(t, small(), []looked{{submit(1, legs...), no}})
				if no == api.OK {
					continue
				}
				for other := range wrongLegs() {
					looks(t, small(), []looked{{submit(1, append(append(times(ahead, good), l), times(after, other)...)...), no}})
				}
			}
		}
	}
}

func TestCheckPairs(t *testing.T) {
	looks(t, small(), []looked{
		{snapshot(), api.OK}, {api.Op{Code: api.OpSnapshot, Pairs: []api.Key{}}, api.OK},
		{snapshot(0, 0), api.OK}, {snapshot(2, 1), api.OK}, {snapshot(0, 0, 0, 0), api.OK}, {snapshot(2, 1, 0, 0, 1, 1), api.OK},
		{snapshot(-1, 0), api.ErrAccount}, {snapshot(3, 0), api.ErrAccount}, {snapshot(least, 0), api.ErrAccount}, {snapshot(most, 0), api.ErrAccount},
		{snapshot(0, -1), api.ErrAsset}, {snapshot(0, 2), api.ErrAsset}, {snapshot(0, least), api.ErrAsset}, {snapshot(0, most), api.ErrAsset},
		{snapshot(3, 2), api.ErrAccount}, {snapshot(-1, -1), api.ErrAccount},
		// pair by pair
		{snapshot(0, 2, 3, 0), api.ErrAsset}, {snapshot(3, 0, 0, 2), api.ErrAccount}, {snapshot(0, 0, 0, 2, 3, 0), api.ErrAsset}, {snapshot(0, 0, 2, 1, 3, 2), api.ErrAccount},
	})
}

// P16.7: of each pair the same is told at each place, and more than MaxPairs are too many, whatever they are.
func TestCheckHowManyPairs(t *testing.T) {
	good := api.Key{Account: 2, Asset: 1}
	for n := range 70 {
		no := api.OK
		if n > 64 {
			no = api.ErrMany
		}
		looks(t, small(), []looked{{api.Op{Code: api.OpSnapshot, Pairs: times(n, good)}, no}})
		for at := range n {
			for bad, wrong := range map[api.Key]api.Errno{{Account: 3}: api.ErrAccount, {Asset: -1}: api.ErrAsset} {
				pairs := times(n, good)
				pairs[at] = bad
				if n > 64 {
					wrong = api.ErrMany
				}
				looks(t, small(), []looked{{api.Op{Code: api.OpSnapshot, Pairs: pairs}, wrong}})
			}
		}
	}
	looks(t, small(), []looked{{api.Op{Code: api.OpSnapshot, Pairs: make([]api.Key, 100000)}, api.ErrMany}})
}

func TestCheckOtherCodes(t *testing.T) {
	good := api.Op{Qty: 1, Name: 1, Id: 1, Legs: []api.Leg{leg(0, 1, 0, 1, 0)}}
	for _, n := range append(edges(), 10, 1<<32+8, 1-1<<32, least+8) {
		if n >= 1 && n <= 8 {
			continue
		}
		good.Code = int(n)
		looks(t, small(), []looked{{good, api.ErrCode}, {api.Op{Code: int(n)}, api.ErrCode}, {filled(int(n)), api.ErrCode}})
	}
}

// counts are how many accounts or assets a configuration may tell, whether it fits or not.
func counts() []int {
	return []int{0, 1, 2, 3, 65535, 65536, 65537, 1 << 32, 1<<32 + 1, most - 1, most, -1, -2, -65536, -1 << 32, least, least + 1}
}

// With any configuration an account is one from 0 to Accounts - 1, an asset one from 0 to Assets - 1.
func TestCheckAnyConfig(t *testing.T) {
	for _, n := range counts() {
		for _, m := range counts() {
			c := api.Config{Accounts: n, Assets: m}
			for _, x := range edges() {
				at := int(x)
				for _, o := range []api.Op{
					held(api.OpDeposit, at, 0, 1), held(api.OpWithdraw, 0, at, 1), marked(api.OpMark, at, at, 1, 1), marked(api.OpUnmark, 0, at, 1, 1),
					submit(1, leg(at, 0, 0, 1, 0)), submit(1, leg(0, at, 0, 1, 0)), submit(1, leg(0, 1, at, 1, 0)), snapshot(at, 0), snapshot(0, at),
					snapshot(), submit(at), {Code: api.OpCancel, Id: at}, {Code: api.OpStatus, Id: at}, {Code: at},
				} {
					checks(t, c, o)
				}
			}
		}
	}
}

// The last account and the last asset are there, and none behind them.
func TestCheckLast(t *testing.T) {
	for _, n := range []int{1, 2, 3, 100, 65535, 65536, 65537, 1 << 40, most} {
		a, b := api.Config{Accounts: n, Assets: 1}, api.Config{Accounts: 2, Assets: n}
		looks(t, a, []looked{{held(1, n-1, 0, 1), api.OK}, {held(1, 0, 0, 1), api.OK}, {held(1, -1, 0, 1), api.ErrAccount}, {snapshot(n-1, 0), api.OK}})
		looks(t, b, []looked{{held(2, 1, n-1, 1), api.OK}, {held(2, 1, -1, 1), api.ErrAsset}, {submit(1, leg(0, 1, n-1, 1, 0)), api.OK}, {snapshot(0, n-1), api.OK}})
		if n < most {
			looks(t, a, []looked{{held(1, n, 0, 1), api.ErrAccount}, {snapshot(n, 0), api.ErrAccount}, {submit(1, leg(n, 0, 0, 1, 0)), api.ErrAccount}, {submit(1, leg(0, n, 0, 1, 0)), api.ErrAccount}})
			looks(t, b, []looked{{held(2, 1, n, 1), api.ErrAsset}, {snapshot(0, n), api.ErrAsset}, {submit(1, leg(0, 1, n, 1, 0)), api.ErrAsset}})
		}
	}
}

// No account is there, or no asset, or neither: then only what has none is taken.
func TestCheckNone(t *testing.T) {
	for _, n := range []int{0, -1, least} {
		for _, c := range []api.Config{{Accounts: n, Assets: n}, {Accounts: n, Assets: 5}} {
			looks(t, c, []looked{
				{held(1, 0, 0, 1), api.ErrAccount}, {marked(3, -1, 0, 1, 1), api.ErrAccount}, {submit(1, leg(0, 1, 0, 1, 0)), api.ErrAccount}, {submit(1, leg(-2, -1, -1, 1, 0)), api.ErrAccount},
				{snapshot(0, 0), api.ErrAccount}, {snapshot(), api.OK}, {submit(1), api.ErrShort}, {submit(0), api.ErrArg}, {api.Op{Code: api.OpCancel, Id: 1}, api.OK}, {api.Op{Code: api.OpStatus, Id: 1}, api.OK}, {api.Op{}, api.ErrCode},
			})
		}
		looks(t, api.Config{Accounts: 5, Assets: n}, []looked{
			{held(1, 0, 0, 1), api.ErrAsset}, {marked(4, 0, -1, 1, 1), api.ErrAsset}, {submit(1, leg(0, 1, 0, 1, 0)), api.ErrAsset}, {submit(1, leg(0, 0, 0, 1, 0)), api.ErrSame}, {snapshot(0, 0), api.ErrAsset}, {snapshot(), api.OK},
		})
	}
}

// All operations of few numbers, right and wrong in as many ways at once as there are, are refused as the document's table says.
func TestCheckAllSmall(t *testing.T) {
	accounts, assets := []int{-1, 0, 2, 3}, []int{-1, 0, 1, 2}
	qtys, names := []int64{-1, 0, 1, most}, []int{-1, 0, 1, 65536, 65537}
	told := map[api.Errno]int{}
	for _, a := range accounts {
		for _, s := range assets {
			for _, q := range qtys {
				for _, n := range names {
					for code := range 10 {
						told[checks(t, small(), api.Op{Code: code, Account: a, Asset: s, Qty: q, Name: n, Id: n, Pairs: []api.Key{{Account: a, Asset: s}}})]++
					}
					for _, b := range accounts {
						told[checks(t, small(), submit(1, leg(a, b, s, q, n)))]++
						told[checks(t, small(), submit(1, leg(0, 2, 1, 5, 0), leg(a, b, s, q, n), leg(b, a, s, -q, n)))]++
					}
				}
			}
		}
	}
	for _, no := range []api.Errno{api.OK, api.ErrAccount, api.ErrAsset, api.ErrAmount, api.ErrMark, api.ErrSame, api.ErrArg, api.ErrShort, api.ErrCode} {
		if told[no] == 0 {
			t.Errorf("%v was never told", no)
		}
	}
}
