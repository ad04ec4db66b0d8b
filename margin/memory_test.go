package margin_test

import (
	"slices"
	"testing"

	"custody/api"
	"custody/margin"
	"custody/proof"
)

// What spare room is filled with; no test draws it.
const junk = -77.125

var (
	junkQuote = api.Quote{Day: -77, Price: junk}
	junkPool  = pool(-77, -78, -79)
)

// things are what the calls are given.
type things struct {
	quotes   []api.Quote
	row, two []float64
	pools    []api.Pool
	need     int64
	scale    int
}

// thrown are things of which mostly none is refused.
func thrown(d *proof.Dice) things {
	var x things
	for day := range 2 + d.Below(6) {
		x.quotes = append(x.quotes, api.Quote{Day: day, Price: 1 + float64(d.Below(100))})
	}
	n := 1 << d.Below(5)
	x.row, x.two = wholeRow(d, n), wholeRow(d, n)
	x.pools, x.scale = rightPools(d)
	x.need = max(0, throwNeed(d, x.pools, x.scale))
	return x
}

// roomy are the same things with spare room.
func (x things) roomy() things {
	x.quotes, x.pools = proof.Room(x.quotes, junkQuote), proof.Room(x.pools, junkPool)
	x.row, x.two = proof.Room(x.row, junk), proof.Room(x.two, junk)
	return x
}

// whole are copies of the things with all spare room.
func (x things) whole() things {
	x.quotes, x.pools = slices.Clone(proof.Whole(x.quotes)), slices.Clone(proof.Whole(x.pools))
	x.row, x.two = slices.Clone(proof.Whole(x.row)), slices.Clone(proof.Whole(x.two))
	return x
}

func (x things) spoil() {
	proof.Overwrite(x.quotes, junkQuote)
	proof.Overwrite(x.pools, junkPool)
	proof.Overwrite(x.row, junk)
	proof.Overwrite(x.two, junk)
}

func (x things) same(y things) bool {
	return slices.Equal(x.quotes, y.quotes) && slices.Equal(x.pools, y.pools) && sameRow(x.row, y.row) && sameRow(x.two, y.two)
}

// answers are what all calls answer.
type answers struct {
	returns  []float64
	numbers  [4]float64
	spectrum []complex128
	period   int
	limit    int64
	taken    []int64
	errors   [8]error
}

func (x things) answered() answers {
	var a answers
	a.returns, a.errors[0] = margin.Returns(x.quotes)
	a.numbers[0], a.errors[1] = margin.Mean(x.row)
	a.numbers[1], a.errors[2] = margin.Deviation(x.row)
	a.numbers[2], a.errors[3] = margin.Smooth(x.row, 0.5)
	a.numbers[3], a.errors[4] = margin.Beta(x.row, x.two)
	a.spectrum, a.errors[5] = margin.Spectrum(x.row)
	a.period, _ = margin.Period(x.row)
	a.limit, a.errors[6] = margin.Limit(x.pools, x.scale)
	a.taken, a.errors[7] = margin.Draw(x.pools, x.need, x.scale)
	return a
}

func (a answers) copied() answers {
	a.returns, a.spectrum, a.taken = slices.Clone(a.returns), slices.Clone(a.spectrum), slices.Clone(a.taken)
	return a
}

func (a answers) spoil() {
	proof.Overwrite(a.returns, junk)
	proof.Overwrite(a.spectrum, complex(junk, junk))
	proof.Overwrite(a.taken, -77)
}

func (a answers) same(b answers) bool {
	return sameRow(a.returns, b.returns) && a.numbers == b.numbers && slices.Equal(a.spectrum, b.spectrum) && a.period == b.period && a.limit == b.limit && slices.Equal(a.taken, b.taken) && a.errors == b.errors
}

// TestArgumentsAreLeft is R4: quotes, numbers and pools that are handed in, and their spare room, stay as they are.
func TestArgumentsAreLeft(t *testing.T) {
	d := proof.Dice(2530)
	for range 3000 {
		x := thrown(&d).roomy()
		old := x.whole()
		x.answered()
		if now := x.whole(); !now.same(old) {
			t.Fatalf("%+v became %+v", old, now)
		}
	}
}

// TestAnswersAreNew is R4: an answer shares no memory with another one, nor with what was handed in.
func TestAnswersAreNew(t *testing.T) {
	d := proof.Dice(2531)
	drawn := 0
	for range 3000 {
		x := thrown(&d).roomy()
		one, two := x.answered(), x.answered()
		want := two.copied()
		if !one.same(two) {
			t.Fatalf("of %+v: %+v, then %+v", x, one, two)
		}
		if len(one.taken) > 1 {
			drawn++
		}
		one.spoil()
		if again := x.answered(); !two.same(want) || !again.same(want) {
			t.Fatalf("answers share memory: %+v, %+v, not %+v", two, again, want)
		}
		x.spoil()
		if !two.same(want) {
			t.Fatalf("%+v was %+v, before what was handed in was changed", two, want)
		}
	}
	if drawn < 500 {
		t.Errorf("%d were drawn", drawn)
	}
}

// TestSpectrumOfOneIsNew: also where nothing has to be reckoned an answer is new memory.
func TestSpectrumOfOneIsNew(t *testing.T) {
	l := row(7)
	one, _ := margin.Spectrum(l)
	one[0] = 9
	spreads(t, l, parts(7, 0), api.OK)
	if l[0] != 7 {
		t.Errorf("the row is %v", l)
	}
}

// TestBetaOfOneRow: a row may be held against itself.
func TestBetaOfOneRow(t *testing.T) {
	d := proof.Dice(2532)
	for range 100 {
		l := wholeRow(&d, 2+d.Below(10))
		agreesOnBeta(t, l, l)
		agreesOnBeta(t, l[:len(l)-1], l[1:])
	}
}

// TestAllAtOnce is R5: calls that run at the same time know nothing of one another.
func TestAllAtOnce(t *testing.T) {
	d := proof.Dice(2533)
	x := thrown(&d)
	want := x.answered()
	same := make(chan bool)
	for range 8 {
		go func() {
			ok := true
			for range 100 {
				ok = ok && x.answered().same(want)
			}
			same <- ok
		}()
	}
	for range 8 {
		if !<-same {
			t.Error("another answer")
		}
	}
}
