package match_test

import (
	"math"
	"testing"

	"custody/api"
	"custody/match"
)

// fits tells whether two sides fit for this amount, and not the other way round.
func fits(t *testing.T, want int64, deliver, receive api.Side, bics []string, tolerance int64) {
	t.Helper()
	if got, ok := match.Fit(deliver, receive, bics, tolerance); got != want || !ok {
		t.Errorf("Fit(%+v, %+v, %q, %d) is %d, %v, not %d", deliver, receive, bics, tolerance, got, ok, want)
	}
	if got, ok := match.Fit(receive, deliver, bics, tolerance); got != 0 || ok {
		t.Errorf("Fit(%+v, %+v, %q, %d) is %d, %v", receive, deliver, bics, tolerance, got, ok)
	}
}

// parts tells whether two sides don't fit.
func parts(t *testing.T, deliver, receive api.Side, bics []string, tolerance int64) {
	t.Helper()
	if got, ok := match.Fit(deliver, receive, bics, tolerance); got != 0 || ok {
		t.Errorf("Fit(%+v, %+v, %q, %d) is %d, %v", deliver, receive, bics, tolerance, got, ok)
	}
}

// turn is a change of a side, and its name.
type turn struct {
	name string
	do   func(s *api.Side)
}

// lookedAt are changes of each field that must be the same in both, or that of the other one.
func lookedAt() []turn {
	return []turn{
		{"Trade", func(s *api.Side) { s.Notice.Trade-- }},
		{"Settle", func(s *api.Side) { s.Notice.Settle++ }},
		{"Settle far off", func(s *api.Side) { s.Notice.Settle = -1 << 63 }},
		{"Code's first byte", func(s *api.Side) { s.Notice.Code[0]++ }},
		{"Code's last byte", func(s *api.Side) { s.Notice.Code[11]++ }},
		{"Code none", func(s *api.Side) { s.Notice.Code = api.Isin{} }},
		{"Qty", func(s *api.Side) { s.Notice.Qty++ }},
		{"Qty turned about", func(s *api.Side) { s.Notice.Qty = -s.Notice.Qty }},
		{"Account", func(s *api.Side) { s.Notice.Account += "X" }},
		{"Account none", func(s *api.Side) { s.Notice.Account = "" }},
		{"Account in small letters", func(s *api.Side) { s.Notice.Account = "acc1" }},
		{"Other", func(s *api.Side) { s.Notice.Other += "X" }},
		{"Other none", func(s *api.Side) { s.Notice.Other = "" }},
		{"both accounts changed about", func(s *api.Side) { s.Notice.Account, s.Notice.Other = s.Notice.Other, s.Notice.Account }},
		{"Agent of a branch", agent("DEUTDEFF500")},
		{"Agent of a branch", agent("BNPAFRPP500")},
		{"Agent of nobody", agent("")},
		{"Agent in small letters", agent("deutdeff")},
		{"Agent another one", agent("DEUTDEFG")},
		{"Cancel", func(s *api.Side) { s.Notice.Cancel = true }},
		{"Receive", func(s *api.Side) { s.Notice.Receive = !s.Notice.Receive }},
		{"Pay", func(s *api.Side) { s.Notice.Pay = !s.Notice.Pay }},
		{"the other party", func(s *api.Side) { s.Party = 1 - s.Party }},
		{"no party", from(2)},
		{"a party below 0", from(-1)},
	}
}

// TestLookedAt is P22.1: each field that is looked at another one in one of the sides.
func TestLookedAt(t *testing.T) {
	for _, x := range append(lookedAt(), turn{"Currency", func(s *api.Side) { s.Notice.Currency = "USD" }}, turn{"Currency none", func(s *api.Side) { s.Notice.Currency = "" }}, turn{"Amount", amount(-5000)}) {
		parts(t, d("D1", x.do), r("R1"), bics, tolerance)
		parts(t, d("D1"), r("R1", x.do), bics, tolerance)
		if t.Failed() {
			t.Fatal(x.name)
		}
	}
	for _, x := range lookedAt() {
		parts(t, d("D1", free, x.do), r("R1", free), bics, tolerance)
		parts(t, d("D1", free), r("R1", free, x.do), bics, tolerance)
		if t.Failed() {
			t.Fatal(x.name, "free of payment")
		}
	}
}

// TestAnotherInBoth is P22.1: what must be the same may be anything, right or not, if it is the same.
func TestAnotherInBoth(t *testing.T) {
	for _, x := range []turn{
		{"Trade", func(s *api.Side) { s.Notice.Trade = -1 << 63 }},
		{"Trade behind Settle", func(s *api.Side) { s.Notice.Trade = s.Notice.Settle + 1 }},
		{"Settle", func(s *api.Side) { s.Notice.Settle = 1<<63 - 1 }},
		{"Code", func(s *api.Side) { s.Notice.Code = api.Isin{255, 11: 7} }},
		{"Qty", qty(0)},
		{"Qty below 0", qty(-1 << 63)},
		{"accounts none", func(s *api.Side) { s.Notice.Account, s.Notice.Other = "", "" }},
		{"accounts the same", func(s *api.Side) { s.Notice.Account, s.Notice.Other = "\x80", "\x80" }},
		{"Currency", func(s *api.Side) { s.Notice.Currency = "no currency" }},
		{"Currency none", func(s *api.Side) { s.Notice.Currency = "" }},
	} {
		fits(t, 5000, d("D1", x.do), r("R1", x.do), bics, tolerance)
		if t.Failed() {
			t.Fatal(x.name)
		}
	}
	fits(t, 5000, d("D1", agent("DEUTDEFF")), r("R1", from(0)), bics, tolerance) // a party with itself
	parts(t, d("D1", cancellation), r("R1", cancellation), bics, tolerance)
	far := func(own, other string) func(s *api.Side) {
		return func(s *api.Side) { s.Notice.Account, s.Notice.Other = own, other }
	}
	fits(t, 5000, d("D1", far("ACC7", "ACC8")), r("R1", far("ACC8", "ACC7")), bics, tolerance)
	parts(t, d("D1", far("ACC7", "ACC8")), r("R1", far("ACC7", "ACC8")), bics, tolerance)
	parts(t, d("D1", far("ACC7", "ACC8")), r("R1", far("ACC7", "ACC7")), bics, tolerance)
	parts(t, d("D1", far("ACC7", "ACC8")), r("R1", far("ACC8", "ACC8")), bics, tolerance)
}

// TestNotLookedAt is P22.1: fields that are not looked at may be unlike.
func TestNotLookedAt(t *testing.T) {
	both := []turn{
		{"Ref", func(s *api.Side) { s.Notice.Ref = "OTHER" }},
		{"Ref none", func(s *api.Side) { s.Notice.Ref = "" }},
		{"Prev", func(s *api.Side) { s.Notice.Prev = "P" }},
		{"Priority", func(s *api.Side) { s.Notice.Priority = 7 }},
		{"Priority of no right kind", func(s *api.Side) { s.Notice.Priority = -1 << 63 }},
		{"Links", linked},
		{"Links of no right kind", func(s *api.Side) { s.Notice.Links = make([]api.Link, 17) }},
	}
	for _, x := range both {
		fits(t, 5000, d("D1", x.do), r("R1"), bics, tolerance)
		fits(t, 5000, d("D1"), r("R1", x.do), bics, tolerance)
		if t.Failed() {
			t.Fatal(x.name)
		}
	}
	for _, x := range append(both, turn{"Amount", amount(77)}, turn{"the least Amount", amount(math.MinInt64)}, turn{"Currency", func(s *api.Side) { s.Notice.Currency = "USD" }}) {
		for _, tolerance := range []int64{0, -1, math.MinInt64, math.MaxInt64} {
			fits(t, 0, d("D1", free, x.do), r("R1", free), bics, tolerance)
			fits(t, 0, d("D1", free), r("R1", free, x.do), bics, tolerance)
		}
		if t.Failed() {
			t.Fatal(x.name, "free of payment")
		}
	}
}

// TestSameBics is P22.1: which BICs are the same, told by Agent and by bics, of the deliverer and of the receiver.
func TestSameBics(t *testing.T) {
	same := [][2]string{
		{"DEUTDEFF", "DEUTDEFF"}, {"DEUTDEFF", "DEUTDEFFXXX"}, {"DEUTDEFFXXX", "DEUTDEFF"}, {"DEUTDEFFXXX", "DEUTDEFFXXX"},
		{"DEUTDEFF500", "DEUTDEFF500"}, {"ABCDEF00", "ABCDEF00XXX"}, {"ABCDEFXXXXX", "ABCDEFXX"},
	}
	unlike := [][2]string{
		{"DEUTDEFF", "DEUTDEFF500"}, {"DEUTDEFFXXX", "DEUTDEFFXX0"}, {"DEUTDEFF", "DEUTDEF0"}, {"DEUTDEFF", "DEUTDFFF"}, {"DEUTDEFF", "DEUSDEFF"}, {"DEUTDEFF500", "DEUTDEFF501"},
	}
	for _, s := range []string{"", "X", "DEUTDEF", "DEUTDEFFX", "DEUTDEFFXX", "DEUTDEFFXXXX", "DEUTDEFFxxx", "deutdeff", "DEUT1EFF", "DEUTDE-F", "DEUTDEFF\x00\x00\x00", " DEUTDEFF"} {
		unlike = append(unlike, [2]string{s, s}, [2]string{s, "DEUTDEFF"}, [2]string{"DEUTDEFF", s}, [2]string{"", s})
	}
	try := func(hold func(deliver, receive api.Side, bics []string), x [2]string) {
		hold(d("D1"), r("R1", agent(x[0])), []string{x[1], bics[1]})
		hold(d("D1", agent(x[0])), r("R1"), []string{bics[0], x[1]})
		hold(d("D1", agent(x[0]), from(2)), r("R1", agent(x[0])), []string{"", x[1], x[1]})
		hold(d("D1", agent(x[0])), r("R1", agent(x[0]), from(0)), []string{x[1]})
	}
	for _, x := range same {
		try(func(deliver, receive api.Side, bics []string) {
			t.Helper()
			fits(t, 5000, deliver, receive, bics, tolerance)
		}, x)
	}
	for _, x := range unlike {
		try(func(deliver, receive api.Side, bics []string) {
			t.Helper()
			parts(t, deliver, receive, bics, tolerance)
		}, x)
	}
}

// TestParties is P22.1: a party must be the number of one of bics.
func TestParties(t *testing.T) {
	for _, n := range []int{-1, 2, 3, math.MinInt, math.MaxInt} {
		parts(t, d("D1", from(n)), r("R1"), bics, tolerance)
		parts(t, d("D1"), r("R1", from(n)), bics, tolerance)
		parts(t, d("D1", from(n), agent("")), r("R1", from(n), agent("")), bics, tolerance)
	}
	for _, few := range [][]string{nil, {}, {"DEUTDEFF"}, {"", "BNPAFRPP"}, {"DEUTDEFF", ""}, {"BNPAFRPP", "DEUTDEFF"}} {
		parts(t, d("D1"), r("R1"), few, tolerance)
	}
	room := []string{"DEUTDEFF", "BNPAFRPP", "DEUTDEFF"}
	parts(t, d("D1"), r("R1"), room[:1], tolerance)
	fits(t, 5000, d("D1", from(2)), r("R1"), room, tolerance)
}

// TestTolerances is P22.1: amounts differ by no more than the tolerance, whichever is the greater one, and the answer is the deliverer's.
func TestTolerances(t *testing.T) {
	for _, x := range []struct{ low, high int64 }{
		{5000, 5000}, {5000, 5001}, {5000, 5200}, {0, 1}, {-1, 0}, {-100, 100}, {1, math.MaxInt64}, {0, math.MaxInt64}, {math.MinInt64, -1}, {math.MinInt64, math.MinInt64}, {math.MaxInt64, math.MaxInt64},
	} {
		apart := x.high - x.low
		for _, tolerance := range []int64{apart, math.MaxInt64} {
			fits(t, x.low, d("D1", amount(x.low)), r("R1", amount(x.high)), bics, tolerance)
			fits(t, x.high, d("D1", amount(x.high)), r("R1", amount(x.low)), bics, tolerance)
		}
		if apart < math.MaxInt64 {
			fits(t, x.low, d("D1", amount(x.low)), r("R1", amount(x.high)), bics, apart+1)
		}
		for _, tolerance := range []int64{apart - 1, -1, -apart - 1, math.MinInt64} {
			parts(t, d("D1", amount(x.low)), r("R1", amount(x.high)), bics, tolerance)
			parts(t, d("D1", amount(x.high)), r("R1", amount(x.low)), bics, tolerance)
		}
	}
	for _, x := range [][2]int64{{-1, math.MaxInt64}, {math.MinInt64, math.MaxInt64}, {math.MinInt64, 0}, {math.MinInt64, 1}, {-5000, math.MaxInt64 - 4999}} {
		for _, tolerance := range []int64{0, 1, 200, math.MaxInt64, -1, math.MinInt64} { // apart by more than an int64 tells
			parts(t, d("D1", amount(x[0])), r("R1", amount(x[1])), bics, tolerance)
			parts(t, d("D1", amount(x[1])), r("R1", amount(x[0])), bics, tolerance)
		}
	}
}

// TestFitOfNothing: sides of which nothing is told.
func TestFitOfNothing(t *testing.T) {
	receives := func(s *api.Side) { s.Notice.Receive = true }
	for _, few := range [][]string{nil, {""}, {"DEUTDEFF"}} {
		parts(t, api.Side{}, api.Side{}, few, 0)
		parts(t, api.Side{}, turned(api.Side{}, receives), few, 0)
	}
	fits(t, 0, turned(api.Side{}, agent("DEUTDEFF")), turned(api.Side{}, receives, agent("DEUTDEFF")), bics, 0)
}
