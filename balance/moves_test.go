package balance_test

import (
	"math"
	"testing"

	"custody/api"
	"custody/balance"
	"custody/proof"
)

// move is a call, and what it answers: a position, or an error that tells no place.
type move struct {
	p    api.Position
	qty  int64
	name int
	want api.Position
	no   api.Errno
}

// moves checks rows of calls of one kind.
func moves(t *testing.T, kind string, rows []move) {
	t.Helper()
	for _, c := range calls() {
		if c.kind != kind {
			continue
		}
		for _, x := range rows {
			got, err := c.do(x.p, x.qty, x.name)
			if !same(got, x.want) || !proof.Tells(err, x.no) {
				t.Errorf("%s(%v, %d, %d) is %v, %v; want %v, %v", kind, x.p, x.qty, x.name, got, err, x.want, x.no)
			}
		}
	}
}

// P14.3

// TestWrongPositions: each call begins with the error of Check, with its place, whatever else is wrong.
func TestWrongPositions(t *testing.T) {
	for _, c := range calls() {
		for _, x := range wrongs() {
			for _, qty := range []int64{1, 2, most, 0, -1, least} {
				for _, name := range []int{7, 0, 1, 8, 9, api.MaxName, -1, api.MaxName + 1} {
					got, err := c.do(x.p, qty, name)
					if !isNothing(got) || !proof.TellsAt(err, x.no, 0, x.at) {
						t.Errorf("%s(%v, %d, %d) is %v, %v; want %v at %d", c.kind, x.p, qty, name, got, err, x.no, x.at)
					}
				}
			}
		}
	}
}

// TestWrongQuantities: a quantity below 1 comes next, ahead of all that else is wrong.
func TestWrongQuantities(t *testing.T) {
	for _, c := range calls() {
		for _, p := range rights() {
			for _, qty := range []int64{0, -1, -most, least} {
				for _, name := range []int{0, 1, 7, 8, 9, api.MaxName, -1, api.MaxName + 1, math.MinInt, math.MaxInt} {
					got, err := c.do(p, qty, name)
					if !isNothing(got) || !proof.Tells(err, api.ErrAmount) {
						t.Errorf("%s(%v, %d, %d) is %v, %v; want ErrAmount", c.kind, p, qty, name, got, err)
					}
				}
			}
		}
	}
}

func TestCredit(t *testing.T) {
	moves(t, "credit", []move{
		{p: pos(0), qty: 1, want: pos(1)},
		{p: pos(0), qty: 5, want: pos(5)},
		{p: pos(5), qty: 7, want: pos(12)},
		{p: pos(0), qty: most, want: pos(most)},
		{p: pos(most - 1), qty: 1, want: pos(most)},
		{p: pos(1), qty: most - 1, want: pos(most)},
		{p: pos(2, 7, 3), qty: 4, want: pos(6, 7, 3)},
		{p: pos(0, 7, 3), qty: 4, want: pos(4, 7, 3)},
		{p: pos(2, 7, 3), qty: most - 5, want: pos(most-3, 7, 3)},
		{p: pos(most-4, 2, 3), qty: 1, want: pos(most-3, 2, 3)},
		{p: pos(0, 2, most-1), qty: 1, want: pos(1, 2, most-1)},
		{p: full(0, api.MaxMarks), qty: 9, want: full(9, api.MaxMarks)},
		{p: full(0, api.MaxMarks), qty: most - 8, want: full(most-8, api.MaxMarks)},
		// the total would be too great, though Avail alone would not
		{p: pos(1), qty: most, no: api.ErrOver},
		{p: pos(most), qty: 1, no: api.ErrOver},
		{p: pos(most), qty: most, no: api.ErrOver},
		{p: pos(2, 7, 3), qty: most - 4, no: api.ErrOver},
		{p: pos(most-3, 2, 3), qty: 1, no: api.ErrOver},
		{p: pos(0, 2, most), qty: 1, no: api.ErrOver},
		{p: full(0, api.MaxMarks), qty: most - 7, no: api.ErrOver},
		{p: pos(1<<62, 7, 1<<61, 8, 1<<61-1), qty: 1, no: api.ErrOver},
	})
}

// P14.4

func TestDebit(t *testing.T) {
	moves(t, "debit", []move{
		// with no name: from what is free alone
		{p: pos(5), qty: 1, want: pos(4)},
		{p: pos(5), qty: 5, want: pos(0)},
		{p: pos(most), qty: most, want: pos(0)},
		{p: pos(2, 7, 3), qty: 2, want: pos(0, 7, 3)},
		{p: full(4, api.MaxMarks), qty: 4, want: full(0, api.MaxMarks)},
		// the mark covers it
		{p: pos(2, 7, 3), qty: 1, name: 7, want: pos(2, 7, 2)},
		{p: pos(2, 7, 3), qty: 2, name: 7, want: pos(2, 7, 1)},
		{p: pos(0, 7, 3), qty: 2, name: 7, want: pos(0, 7, 1)},
		{p: pos(0, 7, most), qty: most - 1, name: 7, want: pos(0, 7, 1)},
		// just, and is gone, at each end and between
		{p: pos(2, 7, 3), qty: 3, name: 7, want: pos(2)},
		{p: pos(0, 7, 3), qty: 3, name: 7, want: pos(0)},
		{p: pos(0, 7, most), qty: most, name: 7, want: pos(0)},
		{p: pos(2, 1, 1, 7, 3, 9, 4), qty: 1, name: 1, want: pos(2, 7, 3, 9, 4)},
		{p: pos(2, 1, 1, 7, 3, 9, 4), qty: 3, name: 7, want: pos(2, 1, 1, 9, 4)},
		{p: pos(2, 1, 1, 7, 3, 9, 4), qty: 4, name: 9, want: pos(2, 1, 1, 7, 3)},
		// in part, the rest is free
		{p: pos(2, 7, 3), qty: 4, name: 7, want: pos(1)},
		{p: pos(2, 7, 3), qty: 5, name: 7, want: pos(0)},
		{p: pos(2, 1, 1, 7, 3, 9, 4), qty: 5, name: 7, want: pos(0, 1, 1, 9, 4)},
		{p: pos(most-1, 7, 1), qty: most, name: 7, want: pos(0)},
		{p: pos(1, 7, most-1), qty: most, name: 7, want: pos(0)},
		{p: full(4, api.MaxMarks), qty: 3, name: 8, want: full(2, api.MaxMarks-1)},
		// not at all: there is no mark of that name
		{p: pos(5), qty: 5, name: 7, want: pos(0)},
		{p: pos(2, 7, 3), qty: 2, name: 9, want: pos(0, 7, 3)},
		{p: pos(2, 7, 3), qty: 2, name: 6, want: pos(0, 7, 3)},
		{p: pos(2, 7, 3), qty: 1, name: 1, want: pos(1, 7, 3)},
		{p: pos(2, 7, 3), qty: 1, name: api.MaxName, want: pos(1, 7, 3)},
		{p: pos(2, api.MaxName, 3), qty: 4, name: api.MaxName, want: pos(1)},
		{p: full(4, api.MaxMarks), qty: 4, name: 9, want: full(0, api.MaxMarks)},
	})
}

func TestDebitRefused(t *testing.T) {
	moves(t, "debit", []move{
		{p: pos(9), qty: 1, name: -1, no: api.ErrMark},
		{p: pos(9), qty: 1, name: math.MinInt, no: api.ErrMark},
		{p: pos(9), qty: 1, name: api.MaxName + 1, no: api.ErrMark},
		{p: pos(9), qty: 1, name: math.MaxInt, no: api.ErrMark},
		{p: pos(9), qty: 1, name: 1 << 32, no: api.ErrMark},
		{p: pos(0), qty: 1, no: api.ErrCover},
		{p: pos(5), qty: 6, no: api.ErrCover},
		{p: pos(5), qty: most, no: api.ErrCover},
		{p: pos(2, 7, 3), qty: 3, no: api.ErrCover}, // without the name nothing of the mark
		{p: pos(0, 7, 3), qty: 1, no: api.ErrCover},
		{p: pos(2, 7, 3), qty: 6, name: 7, no: api.ErrCover},
		{p: pos(0, 7, 3), qty: 4, name: 7, no: api.ErrCover},
		{p: pos(2, 7, 3), qty: 3, name: 8, no: api.ErrCover},
		{p: pos(2, 7, 3, 8, 4), qty: 6, name: 7, no: api.ErrCover}, // nor of another mark
		{p: pos(2, 7, 3, 8, 4), qty: 7, name: 8, no: api.ErrCover},
		{p: pos(most-1, 7, 1), qty: most, no: api.ErrCover},
		{p: pos(most-2, 6, 1, 7, 1), qty: most, name: 7, no: api.ErrCover},
		// both: ErrMark is named first
		{p: pos(0), qty: 1, name: -1, no: api.ErrMark},
		{p: pos(0), qty: most, name: api.MaxName + 1, no: api.ErrMark},
	})
}

// P14.5

func TestMark(t *testing.T) {
	moves(t, "mark", []move{
		{p: pos(5), qty: 3, name: 7, want: pos(2, 7, 3)},
		{p: pos(5), qty: 5, name: 7, want: pos(0, 7, 5)},
		{p: pos(5), qty: 1, name: 1, want: pos(4, 1, 1)},
		{p: pos(5), qty: 1, name: api.MaxName, want: pos(4, api.MaxName, 1)},
		{p: pos(most), qty: most, name: 7, want: pos(0, 7, most)},
		// to one that is there
		{p: pos(2, 7, 3), qty: 2, name: 7, want: pos(0, 7, 5)},
		{p: pos(2, 7, 3), qty: 1, name: 7, want: pos(1, 7, 4)},
		{p: pos(most-1, 7, 1), qty: most - 1, name: 7, want: pos(0, 7, most)},
		{p: pos(9, 1, 1, 7, 3, 9, 4), qty: 2, name: 1, want: pos(7, 1, 3, 7, 3, 9, 4)},
		{p: pos(9, 1, 1, 7, 3, 9, 4), qty: 2, name: 7, want: pos(7, 1, 1, 7, 5, 9, 4)},
		{p: pos(9, 1, 1, 7, 3, 9, 4), qty: 2, name: 9, want: pos(7, 1, 1, 7, 3, 9, 6)},
		// a new one ahead of all, between two, behind all
		{p: pos(2, 7, 3), qty: 1, name: 4, want: pos(1, 4, 1, 7, 3)},
		{p: pos(2, 4, 1, 7, 3), qty: 1, name: 3, want: pos(1, 3, 1, 4, 1, 7, 3)},
		{p: pos(2, 4, 1, 7, 3), qty: 1, name: 5, want: pos(1, 4, 1, 5, 1, 7, 3)},
		{p: pos(2, 4, 1, 7, 3), qty: 1, name: 6, want: pos(1, 4, 1, 6, 1, 7, 3)},
		{p: pos(2, 4, 1, 7, 3), qty: 1, name: 8, want: pos(1, 4, 1, 7, 3, 8, 1)},
		{p: pos(2, 4, 1, 7, 3), qty: 1, name: api.MaxName, want: pos(1, 4, 1, 7, 3, api.MaxName, 1)},
		// the last for which there is room
		{p: full(4, api.MaxMarks-1), qty: 1, name: 8, want: full(3, api.MaxMarks)},
		{p: pos(4, 2, 1, 3, 1, 4, 1, 5, 1, 6, 1, 7, 1, 8, 1), qty: 1, name: 1, want: full(3, api.MaxMarks)},
		// no room is needed for one that is there
		{p: full(4, api.MaxMarks), qty: 1, name: 1, want: pos(3, 1, 2, 2, 1, 3, 1, 4, 1, 5, 1, 6, 1, 7, 1, 8, 1)},
		{p: full(4, api.MaxMarks), qty: 4, name: 5, want: pos(0, 1, 1, 2, 1, 3, 1, 4, 1, 5, 5, 6, 1, 7, 1, 8, 1)},
		{p: full(4, api.MaxMarks), qty: 1, name: 8, want: pos(3, 1, 1, 2, 1, 3, 1, 4, 1, 5, 1, 6, 1, 7, 1, 8, 2)},
	})
}

func TestMarkRefused(t *testing.T) {
	moves(t, "mark", []move{
		{p: pos(5), qty: 1, name: 0, no: api.ErrMark},
		{p: pos(5), qty: 1, name: -1, no: api.ErrMark},
		{p: pos(5), qty: 1, name: api.MaxName + 1, no: api.ErrMark},
		{p: pos(5), qty: 1, name: math.MinInt, no: api.ErrMark},
		{p: pos(5), qty: 1, name: math.MaxInt, no: api.ErrMark},
		{p: pos(0), qty: 1, name: 7, no: api.ErrCover},
		{p: pos(5), qty: 6, name: 7, no: api.ErrCover},
		{p: pos(5), qty: most, name: 7, no: api.ErrCover},
		{p: pos(2, 7, 3), qty: 3, name: 7, no: api.ErrCover}, // what is marked so already isn't free
		{p: pos(2, 7, 3), qty: 3, name: 8, no: api.ErrCover},
		{p: pos(0, 7, most), qty: 1, name: 7, no: api.ErrCover},
		{p: full(4, api.MaxMarks), qty: 1, name: 9, no: api.ErrMany},
		{p: full(4, api.MaxMarks), qty: 4, name: api.MaxName, no: api.ErrMany},
		{p: pos(4, 2, 1, 3, 1, 4, 1, 5, 1, 6, 1, 7, 1, 8, 1, 9, 1), qty: 1, name: 1, no: api.ErrMany},
		{p: pos(4, 1, 1, 3, 1, 4, 1, 5, 1, 6, 1, 7, 1, 8, 1, 9, 1), qty: 1, name: 2, no: api.ErrMany},
		// each ahead of the next
		{p: pos(0), qty: 1, name: 0, no: api.ErrMark},
		{p: pos(0), qty: 1, name: api.MaxName + 1, no: api.ErrMark},
		{p: full(0, api.MaxMarks), qty: 1, name: 0, no: api.ErrMark},
		{p: full(4, api.MaxMarks), qty: 1, name: api.MaxName + 1, no: api.ErrMark},
		{p: full(4, api.MaxMarks), qty: 5, name: 9, no: api.ErrCover},
		{p: full(4, api.MaxMarks), qty: 5, name: 8, no: api.ErrCover},
	})
}

// P14.6

func TestUnmark(t *testing.T) {
	moves(t, "unmark", []move{
		{p: pos(2, 7, 3), qty: 1, name: 7, want: pos(3, 7, 2)},
		{p: pos(2, 7, 3), qty: 2, name: 7, want: pos(4, 7, 1)},
		{p: pos(2, 7, 3), qty: 3, name: 7, want: pos(5)},
		{p: pos(0, 7, most), qty: most, name: 7, want: pos(most)},
		{p: pos(0, 7, most), qty: most - 1, name: 7, want: pos(most-1, 7, 1)},
		{p: pos(most-1, 7, 1), qty: 1, name: 7, want: pos(most)},
		{p: pos(0, 1, 1), qty: 1, name: 1, want: pos(1)},
		{p: pos(0, api.MaxName, 1), qty: 1, name: api.MaxName, want: pos(1)},
		{p: pos(9, 1, 1, 7, 3, 9, 4), qty: 1, name: 1, want: pos(10, 7, 3, 9, 4)},
		{p: pos(9, 1, 1, 7, 3, 9, 4), qty: 3, name: 7, want: pos(12, 1, 1, 9, 4)},
		{p: pos(9, 1, 1, 7, 3, 9, 4), qty: 2, name: 7, want: pos(11, 1, 1, 7, 1, 9, 4)},
		{p: pos(9, 1, 1, 7, 3, 9, 4), qty: 4, name: 9, want: pos(13, 1, 1, 7, 3)},
		{p: full(4, api.MaxMarks), qty: 1, name: 8, want: full(5, api.MaxMarks-1)},
	})
}

func TestUnmarkRefused(t *testing.T) {
	moves(t, "unmark", []move{
		{p: pos(2, 7, 3), qty: 1, name: 0, no: api.ErrMark},
		{p: pos(2, 7, 3), qty: 1, name: -7, no: api.ErrMark},
		{p: pos(2, 7, 3), qty: 1, name: math.MinInt, no: api.ErrMark},
		{p: pos(2, 7, 3), qty: 1, name: api.MaxName + 1, no: api.ErrMark},
		{p: pos(2, 7, 3), qty: 1, name: math.MaxInt, no: api.ErrMark},
		{p: pos(2, 7, 3), qty: 1, name: 1, no: api.ErrMark},
		{p: pos(2, 7, 3), qty: 1, name: 6, no: api.ErrMark},
		{p: pos(2, 7, 3), qty: 1, name: 8, no: api.ErrMark},
		{p: pos(2, 7, 3), qty: 1, name: api.MaxName, no: api.ErrMark},
		{p: pos(5), qty: 1, name: 7, no: api.ErrMark},
		{p: full(4, api.MaxMarks), qty: 1, name: 9, no: api.ErrMark},
		{p: pos(2, 7, 3), qty: 4, name: 7, no: api.ErrCover},
		{p: pos(2, 7, 3), qty: 5, name: 7, no: api.ErrCover},
		{p: pos(2, 7, 3), qty: most, name: 7, no: api.ErrCover},
		{p: pos(9, 1, 1, 7, 3, 9, 4), qty: 2, name: 1, no: api.ErrCover},
		{p: pos(9, 1, 1, 7, 3, 9, 4), qty: 5, name: 9, no: api.ErrCover},
		// both: a mark that isn't there has less too
		{p: pos(0), qty: most, name: 7, no: api.ErrMark},
		{p: pos(0), qty: most, name: 0, no: api.ErrMark},
	})
}

// TestGoneAndBack: a mark that came to 0 is gone, so that there is room for another one.
func TestGoneAndBack(t *testing.T) {
	for name := 1; name <= api.MaxMarks; name++ {
		for _, take := range []call{{"debit", balance.Debit}, {"unmark", balance.Unmark}} {
			p, err := take.do(full(4, api.MaxMarks), 1, name)
			if err != nil || len(p.Marks) != api.MaxMarks-1 || balance.Marked(p, name) != 0 {
				t.Errorf("%s under %d is %v, %v", take.kind, name, p, err)
			}
			if p, err = balance.Mark(p, 1, 9); err != nil || len(p.Marks) != api.MaxMarks || p.Marks[7] != (api.Mark{Name: 9, Qty: 1}) {
				t.Errorf("behind that Mark is %v, %v", p, err)
			}
			if q, err := balance.Mark(p, 1, name); !isNothing(q) || !proof.Tells(err, api.ErrMany) {
				t.Errorf("behind that Mark is %v, %v", q, err)
			}
		}
	}
}
