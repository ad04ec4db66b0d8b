package prio_test

import (
	"math"
	"slices"
	"testing"

	"custody/prio"
	"custody/proof"
)

type (
	step = [3]int
	pair = [2]int
)

const (
	most  = math.MaxInt
	least = math.MinInt
)

// nothing is the answer where there is no pair.
var nothing = pair{-1, -1}

// played is a row of steps and the answers to them.
type played struct {
	falling bool
	steps   []step
	want    []pair
}

// plays tells that Play answers so.
func plays(t *testing.T, l []played) {
	t.Helper()
	for _, x := range l {
		if got := prio.Play(x.steps, x.falling); !slices.Equal(got, x.want) {
			t.Errorf("Play(%v, %v) is %v, not %v", x.steps, x.falling, got, x.want)
		}
	}
}

// TestPlayNothing is P15.8 of no steps, and of each step where there is nothing.
func TestPlayNothing(t *testing.T) {
	for _, falling := range []bool{false, true} {
		plays(t, []played{
			{falling, nil, nil},
			{falling, []step{}, nil},
			{falling, []step{{0}}, []pair{nothing}},
			{falling, []step{{2}}, []pair{nothing}},
			{falling, []step{{3}}, []pair{nothing}},
			{falling, []step{{3, 5, 5}}, []pair{nothing}},
			{falling, []step{{4}}, []pair{{0, 0}}},
			{falling, []step{{0}, {2}, {3}, {4}, {0}}, []pair{nothing, nothing, nothing, {0, 0}, nothing}},
			{falling, []step{{1, 4, 5}, {0}, {0}, {2}, {3, 5}, {4}}, []pair{{4, 5}, {4, 5}, nothing, nothing, nothing, {0, 0}}},
			{falling, []step{{1, 4, 5}, {3, 5}, {0}, {2}, {3, 5}, {4}}, []pair{{4, 5}, {4, 5}, nothing, nothing, nothing, {0, 0}}},
		})
	}
}

// TestPlaySteps is P15.8 of each kind of step, rising and falling; what a step doesn't name is not looked at.
func TestPlaySteps(t *testing.T) {
	put := []step{{1, 5, 1}, {1, 3, 2}, {1, 7, 2}, {1, 3, 1}}
	told := []pair{{5, 1}, {3, 2}, {7, 2}, {3, 1}}
	for _, x := range []struct {
		falling bool
		step    step
		want    pair
		left    []pair
	}{
		{false, step{0}, pair{3, 2}, []pair{{3, 1}, {5, 1}, {7, 2}}},
		{false, step{0, 5, 1}, pair{3, 2}, []pair{{3, 1}, {5, 1}, {7, 2}}},
		{true, step{0}, pair{7, 2}, []pair{{5, 1}, {3, 2}, {3, 1}}},
		{false, step{1, 4, 9}, pair{4, 9}, []pair{{3, 2}, {3, 1}, {4, 9}, {5, 1}, {7, 2}}},
		{true, step{1, 4, 9}, pair{4, 9}, []pair{{7, 2}, {5, 1}, {4, 9}, {3, 2}, {3, 1}}},
		{false, step{1, 3, 2}, pair{3, 2}, []pair{{3, 2}, {3, 1}, {3, 2}, {5, 1}, {7, 2}}},
		{true, step{1, 7, 0}, pair{7, 0}, []pair{{7, 2}, {7, 0}, {5, 1}, {3, 2}, {3, 1}}},
		{false, step{2}, pair{3, 2}, []pair{{3, 2}, {3, 1}, {5, 1}, {7, 2}}},
		{true, step{2, 3, 1}, pair{7, 2}, []pair{{7, 2}, {5, 1}, {3, 2}, {3, 1}}},
		{false, step{3, 1}, pair{3, 1}, []pair{{3, 2}, {5, 1}, {7, 2}}},
		{true, step{3, 1}, pair{5, 1}, []pair{{7, 2}, {3, 2}, {3, 1}}},
		{false, step{3, 2, 7}, pair{3, 2}, []pair{{3, 1}, {5, 1}, {7, 2}}},
		{true, step{3, 2, 3}, pair{7, 2}, []pair{{5, 1}, {3, 2}, {3, 1}}},
		{false, step{3, 3}, nothing, []pair{{3, 2}, {3, 1}, {5, 1}, {7, 2}}},
		{false, step{3, 5, 1}, nothing, []pair{{3, 2}, {3, 1}, {5, 1}, {7, 2}}},
		{false, step{4}, pair{4, 0}, []pair{{3, 2}, {3, 1}, {5, 1}, {7, 2}}},
		{true, step{4, 9, 9}, pair{4, 0}, []pair{{7, 2}, {5, 1}, {3, 2}, {3, 1}}},
	} {
		steps, want := slices.Concat(put, []step{x.step}), slices.Concat(told, []pair{x.want})
		for range x.left {
			steps = append(steps, step{0})
		}
		want = append(want, x.left...)
		plays(t, []played{{x.falling, append(steps, step{0}), append(want, nothing)}})
	}
}

// TestPlayAnyOther is P15.8 of all other steps: nothing is done.
func TestPlayAnyOther(t *testing.T) {
	for _, kind := range []int{least, least + 1, -4, -3, -2, -1, 5, 6, 7, 8, 256, 257, 1 << 32, 1<<32 + 1, 1<<63 - 2, most} {
		for _, falling := range []bool{false, true} {
			plays(t, []played{
				{falling, []step{{kind}}, []pair{nothing}},
				{falling, []step{{kind, 5, 1}, {4}, {0}}, []pair{nothing, {0, 0}, nothing}},
				{falling, []step{{1, 5, 1}, {1, 5, 2}, {kind, 5, 1}, {kind, 1, 5}, {4}, {0}, {0}}, []pair{{5, 1}, {5, 2}, nothing, nothing, {2, 0}, {5, 1}, {5, 2}}},
			})
		}
	}
}

// TestPlayEdges is P15.8 with the least and the greatest numbers, and with pairs that look like other answers.
func TestPlayEdges(t *testing.T) {
	put := []step{{1, 0, most}, {1, least, 0}, {1, most, least}, {1, -1, -1}, {1, least, most}, {1, 1, 0}, {1, most, 7}}
	told := []pair{{0, most}, {least, 0}, {most, least}, {-1, -1}, {least, most}, {1, 0}, {most, 7}}
	takeAll := []step{{0}, {0}, {0}, {0}, {0}, {0}, {0}, {0}, {4}}
	plays(t, []played{
		{false, slices.Concat(put, takeAll), slices.Concat(told, []pair{{least, 0}, {least, most}, {-1, -1}, {0, most}, {1, 0}, {most, least}, {most, 7}, nothing, {0, 0}})},
		{true, slices.Concat(put, takeAll), slices.Concat(told, []pair{{most, least}, {most, 7}, {1, 0}, {0, most}, {-1, -1}, {least, 0}, {least, most}, nothing, {0, 0}})},
		{false, slices.Concat(put, []step{{3, most}, {3, most}, {3, most}, {3, least}, {3, -1}, {4}}), slices.Concat(told, []pair{{least, most}, {0, most}, nothing, {most, least}, {-1, -1}, {3, 0}})},
		{true, slices.Concat(put, []step{{3, 0}, {3, 0}, {3, 0}, {4}}), slices.Concat(told, []pair{{1, 0}, {least, 0}, nothing, {5, 0}})},
	})
}

// pairs are a second reckoning of Play: each pair in the order in which it came.
type pairs struct {
	came    []pair
	falling bool
}

// first is the place of the first pair for which is says true; -1: there is none.
func (p *pairs) first(is func(pair) bool) int {
	best := -1
	for at, x := range p.came {
		if !is(x) {
			continue
		}
		if best < 0 || !p.falling && x[0] < p.came[best][0] || p.falling && x[0] > p.came[best][0] {
			best = at
		}
	}
	return best
}

// told is the pair at a place, which is taken out if it must go.
func (p *pairs) told(at int, goes bool) pair {
	if at < 0 {
		return nothing
	}
	x := p.came[at]
	if goes {
		p.came = slices.Delete(p.came, at, at+1)
	}
	return x
}

// answer does a step as the chapter's table says.
func (p *pairs) answer(s step) pair {
	any := func(pair) bool { return true }
	switch s[0] {
	case 0:
		return p.told(p.first(any), true)
	case 1:
		p.came = append(p.came, pair{s[1], s[2]})
		return pair{s[1], s[2]}
	case 2:
		return p.told(p.first(any), false)
	case 3:
		return p.told(p.first(func(x pair) bool { return x[1] == s[1] }), true)
	case 4:
		return pair{len(p.came), 0}
	}
	return nothing
}

// throwSteps throws a row of steps with so many unlike numbers; the more of its kind stand in kinds, the more often a kind comes.
func throwSteps(d *proof.Dice, length, unlike int, kinds ...int) []step {
	number := func() int {
		if d.Below(20) == 0 {
			return proof.Of(d, least, most, -1, 0, int(d.Next()))
		}
		return d.Below(unlike) - unlike/2
	}
	steps := make([]step, length)
	for n := range steps {
		steps[n] = step{proof.Of(d, kinds...), number(), number()}
	}
	return steps
}

// TestPlayMany is P15.8 over many rows of steps, short and long, of few and of many unlike numbers, against the second reckoning.
func TestPlayMany(t *testing.T) {
	d := proof.Dice(15)
	mixes := [][]int{{0, 1, 2, 3, 4}, {0, 1, 1, 2, 3, 4, 5}, {1, 1, 1, 0}, {1, 1, 1, 3}, {1, 1, 0, 3}, {1, 0}, {1, 1, 3, -1, 9}}
	for _, x := range []struct{ rows, length int }{{4000, 12}, {600, 100}, {30, 1500}} {
		for n := range x.rows {
			steps := throwSteps(&d, 1+d.Below(x.length), proof.Of(&d, 1, 2, 3, 10, 100, 1<<40), mixes[n%len(mixes)]...)
			p := &pairs{falling: d.Below(2) == 0}
			var want []pair
			for _, s := range steps {
				want = append(want, p.answer(s))
			}
			got := prio.Play(steps, p.falling)
			if len(got) != len(want) {
				t.Fatalf("%d answers to %d steps", len(got), len(steps))
			}
			for at := range want {
				if got[at] != want[at] {
					t.Fatalf("falling %v: step %d of %v is answered by %v, not %v", p.falling, at, steps[:at+1], got[at], want[at])
				}
			}
		}
	}
}

// TestPlayAgain: the same steps are answered alike each time, and nothing is left of an earlier row.
func TestPlayAgain(t *testing.T) {
	d := proof.Dice(16)
	for range 100 {
		steps := throwSteps(&d, 60, 5, 0, 1, 1, 2, 3, 4)
		first := prio.Play(steps, false)
		prio.Play([]step{{1, least, 0}, {1, 0, 0}}, false)
		prio.Play(steps, true)
		if again := prio.Play(steps, false); !slices.Equal(first, again) {
			t.Fatalf("Play(%v) is %v, and then %v", steps, first, again)
		}
	}
}

// TestPlayLong: a long row of steps, of equals and of rising and falling numbers, doesn't take long.
func TestPlayLong(t *testing.T) {
	const length = 100000
	for name, key := range map[string]func(n int) int{
		"equal":   func(int) int { return 3 },
		"rising":  func(n int) int { return n },
		"falling": func(n int) int { return -n },
		"mixed":   func(n int) int { return n * 7919 % 1009 },
	} {
		var steps []step
		for n := range length {
			steps = append(steps, step{1, key(n), n})
		}
		for range length {
			steps = append(steps, step{0})
		}
		answers := prio.Play(steps, false)[length:]
		for n := 1; n < length; n++ {
			if a, b := answers[n-1], answers[n]; a[0] > b[0] || a[0] == b[0] && a[1] >= b[1] {
				t.Fatalf("%s: %v is popped behind %v", name, b, a)
			}
		}
	}
}
