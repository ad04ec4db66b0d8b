package guard_test

import (
	"slices"
	"testing"

	"custody/api"
	"custody/guard"
	"custody/proof"
)

// read is a row with what it tells.
type read struct {
	raw  []int64
	want api.Op
	no   api.Errno
}

func reads(t *testing.T, l []read) {
	t.Helper()
	for _, x := range l {
		if got, err := guard.Decode(x.raw); !same(got, x.want) || !proof.Tells(err, x.no) {
			t.Errorf("Decode(%d) is %+v, %v; want %+v, %v", x.raw, got, err, x.want, x.no)
		}
	}
}

// behind is a code and so many numbers behind it, from 101 on.
func behind(code int64, n int) []int64 {
	raw := []int64{code}
	for i := range n {
		raw = append(raw, int64(101+i))
	}
	return raw
}

func TestDecodeNothing(t *testing.T) {
	for _, raw := range [][]int64{nil, {}, make([]int64, 0, 4)} {
		reads(t, []read{{raw, api.Op{}, api.ErrShort}})
	}
}

// Each of the eight with just enough numbers: each number in its own field, and nothing else.
func TestDecodeEach(t *testing.T) {
	held := func(code int) api.Op { return api.Op{Code: code, Account: 101, Asset: 102, Qty: 103} }
	marked := func(code int) api.Op { return api.Op{Code: code, Account: 101, Asset: 102, Qty: 103, Name: 104} }
	one, two := api.Leg{From: 102, To: 103, Asset: 104, Qty: 105, Name: 106}, api.Leg{From: 107, To: 108, Asset: 109, Qty: 110, Name: 111}
	reads(t, []read{
		{behind(1, 3), held(api.OpDeposit), api.OK},
		{behind(2, 3), held(api.OpWithdraw), api.OK},
		{behind(3, 4), marked(api.OpMark), api.OK},
		{behind(4, 4), marked(api.OpUnmark), api.OK},
		{behind(5, 1), api.Op{Code: api.OpSubmit, Id: 101}, api.OK},
		{behind(5, 6), api.Op{Code: api.OpSubmit, Id: 101, Legs: []api.Leg{one}}, api.OK},
		{behind(5, 11), api.Op{Code: api.OpSubmit, Id: 101, Legs: []api.Leg{one, two}}, api.OK},
		{behind(6, 1), api.Op{Code: api.OpCancel, Id: 101}, api.OK},
		{behind(7, 1), api.Op{Code: api.OpStatus, Id: 101}, api.OK},
		{behind(8, 0), api.Op{Code: api.OpSnapshot}, api.OK},
		{behind(8, 2), api.Op{Code: api.OpSnapshot, Pairs: []api.Key{{Account: 101, Asset: 102}}}, api.OK},
		{behind(8, 4), api.Op{Code: api.OpSnapshot, Pairs: []api.Key{{Account: 101, Asset: 102}, {Account: 103, Asset: 104}}}, api.OK},
	})
}

// Each of the eight with any number of numbers: which of them are too few, and which too many.
func TestDecodeLengths(t *testing.T) {
	for n := range 60 {
		of := func(least int) api.Errno {
			switch {
			case n < least:
				return api.ErrShort
			case n > least:
				return api.ErrLong
			}
			return api.OK
		}
		whole := func(ahead, size int) api.Errno {
			if n < ahead || (n-ahead)%size != 0 {
				return api.ErrShort
			}
			return api.OK
		}
		for code, no := range []api.Errno{api.ErrCode, of(3), of(3), of(4), of(4), whole(1, 5), of(1), of(1), whole(0, 2), api.ErrCode} {
			raw := behind(int64(code), n)
			got, err := guard.Decode(raw)
			if !proof.Tells(err, no) || err != nil && !same(got, api.Op{}) || err == nil && got.Code != code {
				t.Errorf("Decode(%d) is %+v, %v; want %v", raw, got, err, no)
			}
			decodes(t, raw)
		}
	}
}

// Codes that are none, with nothing behind them and with as many numbers as an operation may have: ErrCode is told ahead of what is too short or too long.
func TestDecodeOtherCodes(t *testing.T) {
	codes := []int64{0, 9, 10, 100, 255, 256, 257, 1 << 16, 1<<16 + 1, 1 << 31, 1<<32 + 1, 1<<32 + 8, -1 << 32, 1 - 1<<32, -1, -2, -5, -8, -9, most, most - 7, least, least + 1, least + 8}
	for _, code := range codes {
		for n := range 12 {
			reads(t, []read{{behind(code, n), api.Op{}, api.ErrCode}})
		}
	}
}

// Numbers are taken as they are, whatever they are, in each field of each operation.
func TestDecodeTakesNumbers(t *testing.T) {
	for code, size := range map[int64]int{1: 3, 2: 3, 3: 4, 4: 4, 5: 11, 6: 1, 7: 1, 8: 4} {
		for at := range size {
			for _, n := range edges() {
				raw := behind(code, size)
				raw[1+at] = n
				o, no := decodes(t, raw)
				if back, _ := rowOf(o); no != api.OK || !slices.Equal(back, raw) {
					t.Errorf("Decode(%d) is %+v, %v", raw, o, no)
				}
			}
		}
	}
}

// Legs and pairs may be any number, also more than Check takes; one that is not whole is told behind any number of them.
func TestDecodeMany(t *testing.T) {
	for _, many := range []int{3, 4, 5, 6, 63, 64, 65, 66, 256, 1000, 50000} {
		for more := range 5 {
			o, no := decodes(t, behind(5, 1+5*many+more))
			if (no == api.OK) != (more == 0) || no == api.OK && len(o.Legs) != many {
				t.Errorf("a Submit of %d legs and %d numbers is %v", many, more, no)
			}
		}
		for more := range 2 {
			o, no := decodes(t, behind(8, 2*many+more))
			if (no == api.OK) != (more == 0) || no == api.OK && len(o.Pairs) != many {
				t.Errorf("a Snapshot of %d pairs and %d numbers is %v", many, more, no)
			}
		}
	}
}

// All rows of up to four numbers, of which each is one of few, are read as the chapter says.
func TestDecodeAllShort(t *testing.T) {
	few := []int64{-1, 0, 1, 2, 3, 4, 5, 6, 7, 8, 9, least, most}
	rows := [][]int64{nil}
	for at := 0; at < len(rows); at++ {
		raw := rows[at]
		decodes(t, raw)
		if len(raw) < 4 {
			for _, n := range few {
				rows = append(rows, append(slices.Clone(raw), n))
			}
		}
	}
}
