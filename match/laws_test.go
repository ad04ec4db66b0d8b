package match_test

import (
	"slices"
	"strconv"
	"testing"

	"custody/api"
	"custody/match"
	"custody/proof"
)

// sidesOf are all sides of a book.
func sidesOf(b *match.Book) []api.Side {
	var l []api.Side
	for s, ok := b.Side(0); ok; s, ok = b.Side(len(l)) {
		l = append(l, s)
	}
	return l
}

// nothingLeft is P22.6: no two open sides fit, each pair that stands does, and no side is in two.
func nothingLeft(t *testing.T, b *match.Book, bics []string, tolerance int64) {
	t.Helper()
	sides := sidesOf(b)
	for _, n := range b.Open() {
		for _, m := range b.Open() {
			if _, ok := match.Fit(sides[n], sides[m], bics, tolerance); ok {
				t.Fatalf("%d and %d are open, and fit: %+v, %+v", n, m, sides[n], sides[m])
			}
		}
	}
	var taken []int
	for _, x := range b.Pairs() {
		if amount, ok := match.Fit(sides[x.Deliver], sides[x.Receive], bics, tolerance); !ok || amount != x.Amount {
			t.Fatalf("%v is a pair of %+v and %+v, which fit: %v, for %d", x, sides[x.Deliver], sides[x.Receive], ok, amount)
		}
		taken = append(taken, x.Deliver, x.Receive)
	}
	slices.Sort(taken)
	if len(slices.Compact(slices.Clone(taken))) != len(taken) {
		t.Fatalf("a side is in two pairs: %v", b.Pairs())
	}
}

// inOnePlace is P22.9: every side is open, in one pair, or one of those that were cancelled.
func inOnePlace(t *testing.T, b *match.Book, cancelled []int) {
	t.Helper()
	all := append(b.Open(), cancelled...)
	for _, x := range b.Pairs() {
		all = append(all, x.Deliver, x.Receive)
	}
	slices.Sort(all)
	for n := range max(len(all), len(sidesOf(b))) {
		if n >= len(all) || all[n] != n {
			t.Fatalf("of %d sides %v are open, %v cancelled, and the pairs are %v", len(sidesOf(b)), b.Open(), cancelled, b.Pairs())
		}
	}
	if !slices.IsSorted(b.Open()) {
		t.Fatalf("Open is %v", b.Open())
	}
}

// TestNothingThatFitsIsLeft is P22.6 and P22.9, behind each of many calls.
func TestNothingThatFitsIsLeft(t *testing.T) {
	dice := proof.Dice(4)
	for range 150 {
		bics, tolerance := slices.Concat(bics, throwBics(&dice)), proof.Of[int64](&dice, 0, 100, 299, api.MaxAmount, -1)
		b := match.New(bics, tolerance)
		var cancelled []int
		for range 40 {
			if dice.Below(3) > 0 {
				b.Add(throwSide(&dice, bics, 36))
			} else if l := sidesOf(b); len(l) > 0 {
				cancelled = append(cancelled, giveUp(t, b, dice.Below(len(l)))...)
			}
			nothingLeft(t, b, bics, tolerance)
			inOnePlace(t, b, cancelled)
		}
	}
}

// giveUp asks for the cancellation of a side, by which it is one or two or none that are cancelled.
func giveUp(t *testing.T, b *match.Book, n int) []int {
	t.Helper()
	s, _ := b.Side(n)
	isOpen, with := slices.Contains(b.Open(), n), b.Pairs()
	ok, _ := b.Cancel(s.Party, s.Notice.Ref)
	switch {
	case !ok:
		return nil
	case isOpen:
		return []int{n}
	}
	for _, x := range with {
		if x.Deliver == n || x.Receive == n {
			return []int{x.Deliver, x.Receive}
		}
	}
	t.Fatalf("%d was neither open nor in a pair, and is cancelled now", n)
	return nil
}

// TestWhicheverComesFirst is P22.7: two sides that fit are matched in either order, whatever lies between them that fits with neither.
func TestWhicheverComesFirst(t *testing.T) {
	dice := proof.Dice(5)
	matched := 0
	for range 12000 {
		own, other := throwSide(&dice, bics, 10), throwSide(&dice, bics, 10)
		own.Notice.Ref, other.Notice.Ref = "OWN", "OTHER"
		either := [2]int{}
		for turn, two := range [][2]api.Side{{own, other}, {other, own}} {
			b := match.New(bics, 100)
			first, made, err := b.Add(two[0])
			if err != nil {
				continue
			}
			if made >= 0 {
				t.Fatalf("one alone is matched: %+v", two[0])
			}
			strangers(t, &dice, b)
			if second, made, err := b.Add(two[1]); err == nil && made >= 0 {
				either[turn]++
				x := b.Pairs()[made]
				if l := []int{x.Deliver, x.Receive}; !slices.Contains(l, first) || !slices.Contains(l, second) {
					t.Fatalf("matched is %v", x)
				}
			}
		}
		fit := 0
		for _, two := range [][2]api.Side{{own, other}, {other, own}} {
			if _, ok := match.Fit(two[0], two[1], bics, 100); ok && bothTaken(two) {
				fit = 1
			}
		}
		if either != [2]int{fit, fit} {
			t.Fatalf("%+v and %+v are matched %v times, and fit: %d", own, other, either, fit)
		}
		matched += fit
	}
	if matched < 100 {
		t.Errorf("only %d were matched", matched)
	}
}

func bothTaken(two [2]api.Side) bool {
	for _, s := range two {
		if _, _, err := match.New(bics, 0).Add(s); err != nil {
			return false
		}
	}
	return true
}

// strangers puts sides of other trades into a book: some of them are matched with each other.
func strangers(t *testing.T, dice *proof.Dice, b *match.Book) {
	t.Helper()
	for n := range 5 {
		s := proof.Of(dice, d, r)("STRANGER"+strconv.Itoa(n), qty(77))
		if _, _, err := b.Add(s); err != nil {
			t.Fatal(err)
		}
	}
}

// TestGreaterTolerances is P22.8: what fits fits with every greater tolerance, for the same amount.
func TestGreaterTolerances(t *testing.T) {
	dice := proof.Dice(6)
	fit := 0
	for range 60000 {
		bics := throwBics(&dice)
		a, b := throwTwo(&dice, bics)
		tolerance := throwTolerance(&dice)
		amount, ok := match.Fit(a, b, bics, tolerance)
		if !ok {
			continue
		}
		fit++
		for _, greater := range []int64{tolerance, max(tolerance, tolerance+1), max(tolerance, 0), max(tolerance, throwTolerance(&dice)), api.MaxAmount} {
			if more, ok := match.Fit(a, b, bics, greater); more != amount || !ok {
				t.Fatalf("Fit(%+v, %+v, %q) is %d with the tolerance %d, and %d, %v with %d", a, b, bics, amount, tolerance, more, ok, greater)
			}
		}
	}
	if fit < 1000 {
		t.Errorf("only %d fit", fit)
	}
}

// TestAmountsOfPairs is P22.8: with the tolerance 0 a pair's amount is that of both its sides; free of payment it is none.
func TestAmountsOfPairs(t *testing.T) {
	dice := proof.Dice(7)
	pairs := 0
	for range 100 {
		b := match.New(bics, 0)
		for range 60 {
			b.Add(throwSide(&dice, bics, 36))
		}
		sides := sidesOf(b)
		for _, x := range b.Pairs() {
			pairs++
			for _, n := range []int{x.Deliver, x.Receive} {
				if s := sides[n].Notice; x.Amount != s.Amount || !s.Pay && x.Amount != 0 {
					t.Fatalf("%v is a pair with %+v", x, s)
				}
			}
		}
	}
	if pairs < 100 {
		t.Errorf("only %d pairs", pairs)
	}
}

// TestManySides: a great many sides of one face, and of unlike ones, each matched with the first that fits.
func TestManySides(t *testing.T) {
	const many = 50000
	for _, x := range []struct {
		name string
		side func(n int) func(s *api.Side)
	}{
		{"free of payment, one face", func(int) func(s *api.Side) { return free }},
		{"unlike faces", func(n int) func(s *api.Side) { return qty(int64(n + 1)) }},
		{"one face, and amounts that are close", func(n int) func(s *api.Side) { return amount(int64(5000 + n%2)) }},
	} {
		b := match.New(bics, 1)
		for n := range many {
			if at, made, err := b.Add(d("D"+strconv.Itoa(n), x.side(n), from(0))); at != n || made != -1 || err != nil {
				t.Fatalf("%s: Add is %d, %d, %v", x.name, at, made, err)
			}
		}
		for n := range many {
			s := r("R"+strconv.Itoa(n), amount(5000), x.side(n), from(1))
			if at, made, err := b.Add(s); at != many+n || made != n || err != nil {
				t.Fatalf("%s: Add is %d, %d, %v", x.name, at, made, err)
			}
		}
		l := b.Pairs()
		for n := range many {
			if l[n].Deliver != n || l[n].Receive != many+n {
				t.Fatalf("%s: the pair %d is %v", x.name, n, l[n])
			}
		}
		if len(l) != many || len(b.Open()) != 0 {
			t.Errorf("%s: %d pairs, %d are open", x.name, len(l), len(b.Open()))
		}
	}
}
