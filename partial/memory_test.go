package partial_test

import (
	"slices"
	"testing"

	"custody/api"
	"custody/partial"
	"custody/proof"
)

// junkPair is what lists are overwritten with; no test draws it.
var junkPair = pair{-77, -78}

// TestPartsAreNew is P26.5: each time Parts are in new memory, which what comes later doesn't change.
func TestPartsAreNew(t *testing.T) {
	o := ordered(t, 100, 1000, 1, 0)
	var shown [][]pair
	for n := range int64(100) {
		shown = append(shown, o.Parts(), o.Parts())
		takes(t, o, asks{1, 10, 1, 10})
		if n%10 == 0 {
			takes(t, o, asks{1, 9, 0, 0})
		}
	}
	want := func(l []pair, n int) {
		t.Helper()
		if !slices.Equal(l, slices.Repeat([]pair{{1, 10}}, n)) {
			t.Fatalf("of %d parts: %v", n, l)
		}
	}
	for i, l := range shown {
		want(l, i/2)
	}
	for i, l := range shown {
		proof.Overwrite(l, junkPair)
		for k, other := range shown[i+1:] {
			want(other, (i+1+k)/2)
		}
	}
	want(o.Parts(), 100)
}

// TestPartsAreNotKept is R4: whatever is written into Parts and behind them, ahead of a part and after it, the order stays as it is.
func TestPartsAreNotKept(t *testing.T) {
	d := proof.Dice(2607)
	for range 2000 {
		x := throwLittle(t, &d)
		for range 1 + d.Below(10) {
			have, cash := x.throwAsk(&d)
			ahead := x.o.Parts()
			want := slices.Clone(ahead)
			x.o.Take(have, cash)
			x.b.takeByTrying(have, cash)
			if !slices.Equal(ahead, want) {
				t.Fatalf("%v became %v", want, ahead)
			}
			proof.Overwrite(ahead, junkPair)
			proof.Overwrite(x.o.Parts(), junkPair)
			q, m := x.b.left()
			shows(t, x.o, q, m, x.b.parts...)
		}
	}
}

// TestOrdersAreApart: what is asked of one order changes no other one, though it be made of the same numbers.
func TestOrdersAreApart(t *testing.T) {
	d := proof.Dice(2608)
	var seen outcomes
	for range 500 {
		all := []thrown{throwLittle(t, &d), throwLittle(t, &d)}
		for _, x := range slices.Clone(all) {
			all = append(all, of(t, x.b.qty, x.b.amount, x.b.lot, x.b.least))
		}
		for range 20 {
			x := all[d.Below(len(all))]
			x.ask(t, &d, x.b.takeByTrying, &seen)
			for _, y := range all {
				q, m := y.b.left()
				shows(t, y.o, q, m, y.b.parts...)
			}
		}
	}
	seen.haveSeen(t, 100)
}

// TestLegsAreNew is R4: legs share no memory with others of the same numbers.
func TestLegsAreNew(t *testing.T) {
	for _, money := range amounts(0, 70) {
		one, _ := partial.Legs(1, 2, 5, 0, 10, money)
		two, _ := partial.Legs(1, 2, 5, 0, 10, money)
		want := slices.Clone(two)
		proof.Overwrite(one, api.Leg{From: -77, Qty: -78})
		if !slices.Equal(two, want) {
			t.Errorf("%+v became %+v", want, two)
		}
		legs(t, 1, 2, 5, 0, 10, money, want, api.OK)
	}
}

// TestAllAtOnce is R5: orders that are asked at the same time know nothing of one another.
func TestAllAtOnce(t *testing.T) {
	asked := func() [][]pair {
		d := proof.Dice(2609)
		var all [][]pair
		for range 200 {
			x := throwLittle(t, &d)
			for range 6 {
				x.o.Take(x.throwAsk(&d))
			}
			all = append(all, x.o.Parts())
		}
		return all
	}
	want := asked()
	same := make(chan bool)
	for range 8 {
		go func() { same <- slices.EqualFunc(asked(), want, slices.Equal[[]pair]) }()
	}
	for range 8 {
		if !<-same {
			t.Error("another answer")
		}
	}
}
