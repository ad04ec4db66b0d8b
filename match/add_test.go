package match_test

import (
	"math"
	"strconv"
	"testing"

	"custody/api"
	"custody/match"
	"custody/notice"
)

// TestNewBook is P22.2: there is nothing in a new book, whatever its parties.
func TestNewBook(t *testing.T) {
	for _, few := range [][]string{nil, {}, {""}, {"x", "DEUTDEFF", "DEUTDEFF"}, bics} {
		for _, tolerance := range []int64{0, -1, 1, math.MinInt64, math.MaxInt64} {
			x := tested{t, match.New(few, tolerance)}
			x.open()
			x.pairs()
			x.noSide(-1, 0, 1, math.MinInt, math.MaxInt)
			for party := -1; party <= len(few); party++ {
				x.alleged(party)
			}
			x.keeps(api.ErrLost, 0, "D1")
			x.keeps(api.ErrLost, -1, "")
		}
	}
}

// TestNoParties is P22.3: a book without parties takes no side.
func TestNoParties(t *testing.T) {
	for _, few := range [][]string{nil, {}} {
		x := tested{t, match.New(few, tolerance)}
		x.refuses(api.ErrLost, d("D1"))
		x.refuses(api.ErrLost, r("R1"))
		x.refuses(api.ErrKind, r("R1", cancellation))
	}
}

// TestTwoBooks is P22.2: two books know nothing of one another.
func TestTwoBooks(t *testing.T) {
	x, y := newTested(t), newTested(t)
	x.add(0, -1, d("D1"))
	y.open()
	y.noSide(0)
	y.keeps(api.ErrLost, 0, "D1")
	y.add(0, -1, r("R1"))
	y.add(1, 0, d("D1"))
	y.cancel(false, 0, "D1")
	y.cancel(true, 1, "R1")
	x.open(0)
	x.pairs()
	x.add(1, -1, d("D2"))
	x.add(2, 0, r("R1"))
	x.cancel(false, 1, "R1")
	y.open()
	y.pairs()
	x.pairs(pair(0, 2, 5000))
}

// TestNumbers is P22.3: the numbers of sides and of pairs are how many there were ahead; a refused side counts as none.
func TestNumbers(t *testing.T) {
	x := newTested(t)
	for n := range 10 {
		text := strconv.Itoa(n)
		x.add(2*n, -1, d("D"+text, qty(int64(n+1))))
		x.refuses(api.ErrTwice, d("D"+text))
		x.refuses(api.ErrText, d(""))
		x.add(2*n+1, n, r("R"+text, qty(int64(n+1))))
		if n%3 == 0 { // pairs that are given up count on
			x.cancel(false, 1, "R"+text)
			x.cancel(true, 0, "D"+text)
		}
	}
	x.open()
	x.pairs(pair(2, 3, 5000), pair(4, 5, 5000), pair(8, 9, 5000), pair(10, 11, 5000), pair(14, 15, 5000), pair(16, 17, 5000))
}

// TestEitherFirst is P22.3: whoever comes first, the deliverer's side is the deliverer's, and the amount its own.
func TestEitherFirst(t *testing.T) {
	x := newTested(t)
	x.add(0, -1, d("D1"))
	x.add(1, 0, r("R1"))
	x.add(2, -1, r("R2"))
	x.add(3, 1, d("D2"))
	x.add(4, -1, d("D3", free))
	x.add(5, 2, r("R3", free))
	x.add(6, -1, r("R4", free))
	x.add(7, 3, d("D4", free))
	x.pairs(pair(0, 1, 5000), pair(3, 2, 5000), pair(4, 5, 0), pair(7, 6, 0))
	x.open()
}

// TestFirstCome is P22.3: of several open sides that fit the one of the least number is taken.
func TestFirstCome(t *testing.T) {
	x := newTested(t)
	x.add(0, -1, r("R0", amount(5201)))
	x.add(1, -1, r("R1", qty(11)))
	x.add(2, -1, r("R2", amount(5200)))
	x.add(3, -1, r("R3", amount(5000)))
	x.add(4, -1, r("R4", amount(4800)))
	x.add(5, -1, r("R5", amount(4799)))
	x.add(6, -1, r("R6", amount(5000), free))
	x.add(7, 0, d("D1"))
	x.add(8, 1, d("D2"))
	x.add(9, 2, d("D3"))
	x.add(10, -1, d("D4"))
	x.open(0, 1, 5, 6, 10)
	x.pairs(pair(7, 2, 5000), pair(8, 3, 5000), pair(9, 4, 5000))
	x.add(11, 3, d("D5", amount(5201)))
	x.add(12, 4, r("R7", amount(5201-1)))
	x.pairs(pair(7, 2, 5000), pair(8, 3, 5000), pair(9, 4, 5000), pair(11, 0, 5201), pair(10, 12, 5000))
}

// TestFirstComeBehindOneThatLeft is P22.3 of sides of which one in the middle, the first or the last was matched or cancelled.
func TestFirstComeBehindOneThatLeft(t *testing.T) {
	for gone := range 4 {
		x := newTested(t)
		for n := range 4 {
			x.add(n, -1, d("D"+strconv.Itoa(n), amount(int64(1000+1000*n))))
		}
		if gone%2 == 0 {
			x.cancel(true, 0, "D"+strconv.Itoa(gone))
		} else {
			x.add(4, 0, r("R", amount(int64(1000+1000*gone))))
		}
		for n := range 4 {
			s := r("R"+strconv.Itoa(n), amount(int64(1001+1000*n)))
			_, made, err := x.b.Add(s)
			if err != nil || (made < 0) != (n == gone) {
				t.Errorf("%d is gone: Add(%+v) is in the pair %d, %v", gone, s, made, err)
			}
		}
	}
}

// notices are turns by which notice.Check refuses a side, in the order of its refusals.
func notices() []turn {
	long := make([]api.Link, 17)
	return []turn{
		{"ErrText", func(s *api.Side) { s.Notice.Ref = "d1" }},
		{"ErrText", func(s *api.Side) { s.Notice.Prev = "-" }},
		{"ErrDate", func(s *api.Side) { s.Notice.Trade = 0 }},
		{"ErrForm", func(s *api.Side) { s.Notice.Code[11]++ }},
		{"ErrAmount", qty(0)},
		{"ErrAccount", func(s *api.Side) { s.Notice.Account = "" }},
		{"ErrForm", agent("DEUTDEFFxxx")},
		{"ErrAccount", func(s *api.Side) { s.Notice.Other = "a" }},
		{"ErrAmount", amount(0)},
		{"ErrForm", func(s *api.Side) { s.Notice.Currency = "EURO" }},
		{"ErrArg", func(s *api.Side) { s.Notice.Priority = 10000 }},
		{"ErrMany", func(s *api.Side) { s.Notice.Links = long }},
		{"ErrKind", func(s *api.Side) { s.Notice.Links = []api.Link{{Ref: "A"}} }},
		{"ErrText", func(s *api.Side) { s.Notice.Links = []api.Link{{Kind: api.With}} }},
		{"ErrSame", func(s *api.Side) { s.Notice.Links = []api.Link{{Kind: api.With, Ref: s.Notice.Ref}} }},
	}
}

// TestNoticesThatAreWrong is P22.3: what notice.Check refuses is refused by its number, ahead of all else.
func TestNoticesThatAreWrong(t *testing.T) {
	x := newTested(t)
	x.add(0, -1, d("D1"))
	for _, wrong := range notices() {
		for _, more := range [][]func(s *api.Side){nil, {cancellation}, {from(2)}, {from(-1), cancellation}} {
			s := d("D1", append(more, wrong.do)...) // a second one of the same party and Ref as well
			no := api.Errno(number(notice.Check(s.Notice)))
			if no == api.OK {
				t.Fatalf("%s: nothing is wrong with %+v", wrong.name, s)
			}
			x.refuses(no, s)
		}
	}
	x.refuses(api.ErrArg, d("D1", free, amount(1)))
	x.refuses(api.ErrText, api.Side{})
}

// TestErrorsInOrder is P22.3: behind what notice.Check refuses ErrKind, ErrLost and ErrTwice, each ahead of the next.
func TestErrorsInOrder(t *testing.T) {
	x := newTested(t)
	x.add(0, -1, d("D1"))
	for _, party := range []int{0, 1, 2, -1} {
		x.refuses(api.ErrKind, d("D1", cancellation, from(party)))
	}
	for _, party := range []int{-1, 2, 3, math.MinInt, math.MaxInt} {
		x.refuses(api.ErrLost, d("D1", from(party)))
		x.refuses(api.ErrLost, r("D1", from(party)))
	}
	x.refuses(api.ErrTwice, d("D1"))
	x.add(1, -1, d("D1", from(1)))
	x.add(2, 0, r("R1"))
}

// TestTwice is P22.3: of one party and Ref one side is taken, whatever it tells, and whatever has become of the first.
func TestTwice(t *testing.T) {
	x := newTested(t)
	twice := func() {
		t.Helper()
		for _, s := range []api.Side{d("A"), d("A", qty(77)), d("A", free, linked), r("A", from(0))} {
			x.refuses(api.ErrTwice, s)
		}
	}
	x.add(0, -1, d("A"))
	twice()
	x.add(1, 0, r("A")) // another party's
	twice()
	x.refuses(api.ErrTwice, r("A"))
	x.cancel(false, 0, "A")
	twice()
	x.cancel(true, 1, "A")
	twice()
	x.refuses(api.ErrTwice, r("A"))
	x.add(2, -1, d("B"))
	x.cancel(true, 0, "B")
	x.refuses(api.ErrTwice, d("B"))
	x.add(3, -1, d("AA"))
}

// TestRefusedByNobody is P22.3: a party whose BIC is refused may put sides in, and they stay open.
func TestRefusedByNobody(t *testing.T) {
	few := []string{"DEUTDEFF", "", "deutdeff"}
	x := tested{t, match.New(few, tolerance)}
	x.add(0, -1, d("D1", from(1), agent("DEUTDEFF")))
	x.add(1, -1, r("R1", from(2)))
	x.add(2, -1, r("R2", from(1)))
	x.add(3, -1, r("R3", from(0)))
	x.add(4, 0, d("D4", agent("DEUTDEFFXXX")))
	x.open(0, 1, 2)
	x.pairs(pair(4, 3, 5000))
	x.cancel(true, 1, "D1")
	x.cancel(true, 1, "R2")
	x.open(1)
	x.alleged(0, 1)
	x.alleged(1)
	x.alleged(2)
}

// TestRightNotices: sides of every make that notice.Check takes are taken.
func TestRightNotices(t *testing.T) {
	x := newTested(t)
	for n, s := range []api.Side{
		d("0123456789ABCDEF"), d("D1", linked), r("R1", free), r("R2", free, linked, from(0)), d("D2", amount(api.MaxAmount), qty(api.MaxAmount)),
		d("D3", func(s *api.Side) { s.Notice.Trade, s.Notice.Settle, s.Notice.Priority = 1, 3652059, 9999 }),
	} {
		x.add(n, -1, s)
		x.side(n, s)
	}
	x.open(0, 1, 2, 3, 4, 5)
}

// TestToleranceOfABook is P22.3: sides of a book fit by its own tolerance.
func TestToleranceOfABook(t *testing.T) {
	for _, tolerance := range []int64{math.MinInt64, -1, 0, 1, 99, 100, 101, math.MaxInt64} {
		b := match.New(bics, tolerance)
		b.Add(d("D1"))
		n, made, err := b.Add(r("R1"))
		want := -1
		if tolerance >= 100 {
			want = 0
		}
		if n != 1 || made != want || err != nil {
			t.Errorf("tolerance %d: Add is %d, %d, %v", tolerance, n, made, err)
		}
		b.Add(d("D2", free))
		if _, made, err := b.Add(r("R2", free)); made < 0 || err != nil {
			t.Errorf("tolerance %d, free of payment: Add is %d, %v", tolerance, made, err)
		}
	}
	b := match.New(bics, math.MaxInt64)
	b.Add(d("D1", amount(1)))
	if _, made, err := b.Add(r("R1", amount(api.MaxAmount))); made != 0 || err != nil {
		t.Errorf("with the greatest tolerance Add is %d, %v", made, err)
	}
}
