package calendar_test

import (
	"math"
	"slices"
	"sync"
	"testing"

	"custody/api"
	"custody/calendar"
	"custody/proof"
)

var (
	none  = [7]bool{}
	whole = [7]bool{true, true, true, true, true, true, true}
	ends  = [7]bool{5: true, 6: true}
)

// model is what is promised of a calendar, gone through day by day.
type model struct {
	weekend [7]bool
	free    []int
}

func (m model) business(n int) bool {
	return n >= 1 && n <= last && !m.weekend[(n+6)%7] && !slices.Contains(m.free, n)
}

// add is the k-th business day from n on; 0, if there is none within the days or within 9000 steps.
func (m model) add(n, k int) int {
	step := 1
	if k < 0 {
		step, k = -1, -k
	}
	for steps := 0; k > 0; steps++ {
		n += step
		if n < 1 || n > last || steps > 9000 {
			return 0
		}
		if m.business(n) {
			k--
		}
	}
	return n
}

// near is the first business day at n or from it on by step; 0, if there is none.
func (m model) near(n, step int) int {
	if m.business(n) {
		return n
	}
	return m.add(n, step)
}

func (m model) adjust(t *testing.T, n, convention int) int {
	following, preceding := m.near(n, 1), m.near(n, -1)
	within := func(k int) bool {
		if k == 0 {
			return false
		}
		a, b := date(t, n), date(t, k)
		return a.Year == b.Year && a.Month == b.Month
	}
	switch convention {
	case api.Following:
		return following
	case api.Preceding:
		return preceding
	case api.ModifiedFollowing:
		if within(following) {
			return following
		}
		return preceding
	}
	if within(preceding) {
		return preceding
	}
	return following
}

func (m model) count(a, b int) int {
	sum := 0
	for n := a; n < b; n++ {
		if m.business(n) {
			sum++
		}
	}
	return sum
}

// found is the error that stands for a day that a model tells.
func found(n int) api.Errno {
	if n == 0 {
		return api.ErrDate
	}
	return api.OK
}

// agrees checks all that a calendar answers of a span of days against its model.
func agrees(t *testing.T, m model, from, to int) {
	t.Helper()
	c := calendar.New(m.weekend, m.free)
	for n := from; n <= to; n++ {
		if got := c.Business(n); got != m.business(n) {
			t.Errorf("%v: Business(%d) is %v", m, n, got)
		}
		for _, k := range []int{0, 1, -1, 2, -2, 5, -5, 23, -23} {
			want := m.add(n, k)
			got, err := c.Add(n, k)
			holds(t, "Add", []any{m, n, k}, got, err, want, found(want))
		}
		for convention := range 4 {
			want := m.adjust(t, n, convention)
			got, err := c.Adjust(n, convention)
			holds(t, "Adjust", []any{m, n, convention}, got, err, want, found(want))
		}
		for _, k := range []int{0, 1, 2, 6, 7, 8, 13, 14, 50} {
			if n+k > last {
				continue
			}
			got, err := c.Count(n, n+k)
			holds(t, "Count", []any{m, n, n + k}, got, err, m.count(n, n+k), api.OK)
		}
	}
}

// P3.8, P3.10 to P3.13

func TestCalendarsAgainstTheirModel(t *testing.T) {
	x := noise(8)
	for round := range 200 {
		var m model
		for i := range m.weekend {
			m.weekend[i] = x.next(3) == 0
		}
		from := []int{1, last - 100, 1 + x.next(last-200)}[round%3]
		for range x.next(80) {
			m.free = append(m.free, from-20+x.next(140))
		}
		agrees(t, m, from, from+100)
	}
}

func TestEveryWeekend(t *testing.T) {
	middle := day(t, 2024, 2, 25)
	for bits := range 127 { // the whole week has a test of its own
		var m model
		for i := range m.weekend {
			m.weekend[i] = bits>>i&1 == 1
		}
		agrees(t, m, middle, middle+14)
	}
}

func TestFurtherFreeDays(t *testing.T) {
	monday := day(t, 2024, 1, 1)
	for _, free := range [][]int{
		nil, {}, {monday}, {monday, monday, monday}, {monday + 3, monday, monday + 1, monday + 3, monday - 4}, {monday + 5, monday + 6, monday - 1},
		{0, -1, last + 1, math.MaxInt, math.MinInt, monday + 7*last, monday - 7*last}, {0, monday, -monday, last + monday, monday + 1<<32},
	} {
		for _, weekend := range [][7]bool{none, ends} {
			agrees(t, model{weekend, free}, monday-20, monday+20)
		}
	}
}

func TestNoFreeDays(t *testing.T) {
	c := calendar.New(none, nil)
	for _, n := range []int{1, 2, 1000, last - 1, last} {
		if !c.Business(n) {
			t.Errorf("Business(%d) is false", n)
		}
		for _, k := range []int{last - n, 1 - n, 0} {
			got, err := c.Add(n, k)
			holds(t, "Add", []int{n, k}, got, err, n+k, api.OK)
		}
		for _, k := range []int{last - n + 1, -n} {
			got, err := c.Add(n, k)
			holds(t, "Add", []int{n, k}, got, err, 0, api.ErrDate)
		}
	}
	got, err := c.Count(1, last)
	holds(t, "Count", []int{1, last}, got, err, last-1, api.OK)
}

// TestFreeDaysEmptyAndNil: a list that is nil means the same as an empty one.
func TestFreeDaysEmptyAndNil(t *testing.T) {
	a, b := calendar.New(ends, nil), calendar.New(ends, []int{})
	for n := range 30 {
		if a.Business(n) != b.Business(n) {
			t.Errorf("Business(%d) is not the same of nil and of an empty list", n)
		}
	}
}

func TestWholeWeekFree(t *testing.T) {
	for _, free := range [][]int{nil, {1, 5, 5, last}} {
		c := calendar.New(whole, free)
		for _, n := range []int{1, 5, 1000000, last} {
			if c.Business(n) {
				t.Errorf("Business(%d) is true", n)
			}
			got, err := c.Add(n, 0)
			holds(t, "Add", []int{n, 0}, got, err, n, api.OK)
			for _, k := range []int{1, -1, 2, -2, 100, -100, last, -last, math.MaxInt, math.MinInt} {
				got, err := c.Add(n, k)
				holds(t, "Add", []int{n, k}, got, err, 0, api.ErrDate)
			}
			for convention := range 4 {
				got, err := c.Adjust(n, convention)
				holds(t, "Adjust", []int{n, convention}, got, err, 0, api.ErrDate)
			}
			got, err = c.Count(1, n)
			holds(t, "Count", []int{1, n}, got, err, 0, api.OK)
		}
		got, err := c.Count(1, 100)
		holds(t, "Count", []int{1, 100}, got, err, 0, api.OK)
	}
}

// TestFewBusinessDays: with every day free but some, those alone are found, from anywhere.
func TestFewBusinessDays(t *testing.T) {
	open := []int{1002, 1009, 2003} // Mondays
	var free []int
	for n := 1; n <= last; n += 7 {
		if !slices.Contains(open, n) {
			free = append(free, n)
		}
	}
	c := calendar.New([7]bool{false, true, true, true, true, true, true}, free)
	for _, n := range []int{1, 1001, 1002, 1009, 2003, last} {
		for k := 1; k <= len(open)+1; k++ {
			ahead, behind := at(open, n, -k), at(open, n, k)
			got, err := c.Add(n, k)
			holds(t, "Add", []int{n, k}, got, err, behind, found(behind))
			got, err = c.Add(n, -k)
			holds(t, "Add", []int{n, -k}, got, err, ahead, found(ahead))
		}
		got, err := c.Count(1, n)
		holds(t, "Count", []int{1, n}, got, err, countBelow(open, n), api.OK)
	}
}

// at is the k-th of rising days behind n, or the -k-th ahead of it; 0, if there is none.
func at(days []int, n, k int) int {
	if k > 0 {
		for _, d := range days {
			if d > n {
				k--
				if k == 0 {
					return d
				}
			}
		}
		return 0
	}
	for i := len(days) - 1; i >= 0; i-- {
		if days[i] < n {
			k++
			if k == 0 {
				return days[i]
			}
		}
	}
	return 0
}

func countBelow(days []int, n int) int {
	sum := 0
	for _, d := range days {
		if d < n {
			sum++
		}
	}
	return sum
}

func TestBusinessOfNoDay(t *testing.T) {
	for _, c := range []*calendar.Calendar{calendar.New(none, nil), calendar.New(ends, []int{1, 2}), calendar.New(whole, nil)} {
		for _, n := range noDays {
			if c.Business(n) {
				t.Errorf("Business(%d) is true", n)
			}
		}
	}
}

// P3.11

func TestAddRefuses(t *testing.T) {
	c := calendar.New(ends, []int{8})
	for _, n := range noDays {
		for _, k := range []int{0, 1, -1, 5, math.MaxInt, math.MinInt} {
			got, err := c.Add(n, k)
			holds(t, "Add", []int{n, k}, got, err, 0, api.ErrDate)
		}
	}
	for _, n := range []int{1, 2, 6, 8, 738521, last - 1, last} {
		for _, k := range []int{math.MaxInt, math.MinInt, math.MaxInt - 1, math.MinInt + 1, last, -last, last - n + 1, -n, math.MaxInt32, math.MinInt32} {
			got, err := c.Add(n, k)
			holds(t, "Add", []int{n, k}, got, err, 0, api.ErrDate)
		}
	}
}

// TestAddToTheEnds: the last business day there is on either side is found, and none further.
func TestAddToTheEnds(t *testing.T) {
	// Of 521722 whole weeks and the days Monday to Friday behind them five in seven are open: day 2 and the last one are free.
	c := calendar.New(ends, []int{2, last})
	open := 521722*5 + 5 - 2
	for _, x := range []struct{ n, k, want int }{
		{1, open - 1, last - 1}, {1, open, 0}, {2, open - 1, last - 1}, {2, open, 0}, {3, open - 2, last - 1}, {3, open - 1, 0},
		{last, -open, 1}, {last, -open - 1, 0}, {last - 1, -open + 1, 1}, {last - 1, -open, 0},
		{last, 1, 0}, {last - 1, 1, 0}, {last - 2, 1, last - 1}, {1, -1, 0}, {2, -1, 1}, {3, -1, 1}, {3, -2, 0}, {1, 1, 3},
	} {
		got, err := c.Add(x.n, x.k)
		holds(t, "Add", []int{x.n, x.k}, got, err, x.want, found(x.want))
	}
}

// P3.19

func TestAddGoesBySteps(t *testing.T) {
	x := noise(11)
	target, err := calendar.Target(1, 9999)
	if err != nil {
		t.Fatal(err)
	}
	for _, c := range []*calendar.Calendar{target, calendar.New(ends, nil), calendar.New([7]bool{true, false, true, false, true, true, true}, []int{2, 9, 16})} {
		for round := range 300 {
			reach := []int{5, 300, 100000}[round%3]
			n, a, b := 1+x.next(last), 1+x.next(reach), 1+x.next(reach)
			if round%2 == 0 {
				a, b = -a, -b
			}
			there, err := c.Add(n, a)
			if err != nil {
				continue
			}
			twice, errTwice := c.Add(there, b)
			once, errOnce := c.Add(n, a+b)
			if twice != once || (errTwice == nil) != (errOnce == nil) {
				t.Errorf("Add of %d to Add(%d, %d) is %d, %v; at once it is %d, %v", b, n, a, twice, errTwice, once, errOnce)
			}
			if !c.Business(there) {
				t.Errorf("Add(%d, %d) is %d, no business day", n, a, there)
			}
			back, err := c.Add(there, -a)
			if c.Business(n) {
				holds(t, "Add", []int{there, -a}, back, err, n, api.OK)
			}
		}
	}
}

// P3.9

func TestTargetExamples(t *testing.T) {
	c, err := calendar.Target(2024, 2024)
	if err != nil {
		t.Fatal(err)
	}
	thursday, sunday := day(t, 2024, 3, 28), day(t, 2024, 3, 31)
	for _, x := range [][2]int{{0, thursday}, {1, day(t, 2024, 4, 2)}, {2, day(t, 2024, 4, 3)}, {-1, day(t, 2024, 3, 27)}} {
		got, err := c.Add(thursday, x[0])
		holds(t, "Add", x[0], got, err, x[1], api.OK)
	}
	for _, x := range [][2]int{{api.Following, day(t, 2024, 4, 2)}, {api.ModifiedFollowing, thursday}, {api.Preceding, thursday}, {api.ModifiedPreceding, thursday}} {
		got, err := c.Adjust(sunday, x[0])
		holds(t, "Adjust", x[0], got, err, x[1], api.OK)
	}
	got, err := c.Count(day(t, 2024, 3, 25), day(t, 2024, 4, 8))
	holds(t, "Count", "of Easter", got, err, 8, api.OK)
	for _, d := range [][3]int{{2024, 1, 1}, {2024, 3, 29}, {2024, 4, 1}, {2024, 5, 1}, {2024, 12, 25}, {2024, 12, 26}, {2024, 12, 28}, {2024, 12, 29}} {
		if c.Business(day(t, d[0], d[1], d[2])) {
			t.Errorf("%v is a business day", d)
		}
	}
	for _, d := range [][3]int{{2023, 12, 25}, {2023, 12, 26}, {2023, 5, 1}, {2025, 1, 1}, {2025, 4, 18}, {2025, 5, 1}, {2024, 1, 2}, {2024, 12, 24}, {2024, 12, 31}, {2024, 5, 9}, {2024, 4, 30}} {
		if !c.Business(day(t, d[0], d[1], d[2])) {
			t.Errorf("%v is no business day", d)
		}
	}
}

// targetOpen tells whether a day is open by the words of P3.9, with the Easter of another rule.
func targetOpen(d api.Date, n, from, to int) bool {
	if (n+6)%7 > 4 {
		return false
	}
	if d.Year < from || d.Year > to {
		return true
	}
	switch [2]int{d.Month, d.Day} {
	case [2]int{1, 1}, [2]int{5, 1}, [2]int{12, 25}, [2]int{12, 26}:
		return false
	}
	month, sunday := easter(d.Year)
	after := sunday - 31*(4-month) // counted from 1 April on, which is 1
	now := d.Day - 31*(4-d.Month)
	return d.Month < 3 || d.Month > 4 || now != after-2 && now != after+1
}

func TestTargetOfManyYears(t *testing.T) {
	for _, x := range [][2]int{{1, 9999}, {1, 1}, {9999, 9999}, {1999, 2031}} {
		c, err := calendar.Target(x[0], x[1])
		if err != nil {
			t.Fatal(err)
		}
		d := api.Date{Year: 1, Month: 1, Day: 1}
		for n := 1; n <= last; n++ {
			if got := c.Business(n); got != targetOpen(d, n, x[0], x[1]) {
				t.Fatalf("Target%v: Business of %v is %v", x, d, got)
			}
			d = tomorrow(d)
		}
	}
}

func TestTargetRefuses(t *testing.T) {
	wrong := []int{0, 10000, -1, 10001, math.MaxInt, math.MinInt}
	refuses := func(from, to int, no api.Errno) {
		t.Helper()
		if c, err := calendar.Target(from, to); c != nil || !proof.Tells(err, no) {
			t.Errorf("Target(%d, %d) is %v, %v; want %v", from, to, c, err, no)
		}
	}
	for _, a := range wrong {
		for _, b := range append([]int{1, 2024, 9999}, wrong...) {
			refuses(a, b, api.ErrDate)
			refuses(b, a, api.ErrDate)
		}
	}
	for _, x := range [][2]int{{2, 1}, {9999, 1}, {2024, 2023}, {9999, 9998}} {
		refuses(x[0], x[1], api.ErrArg)
	}
}

// P3.12

// TestAdjustAtTheEndsOfMonths: with long rows of free days about the ends of months the modified conventions turn back, or find nothing in the month and go on.
func TestAdjustAtTheEndsOfMonths(t *testing.T) {
	for _, month := range [][2]int{{2024, 2}, {2023, 2}, {2024, 12}, {2024, 1}, {1, 1}, {9999, 12}} {
		first := day(t, month[0], month[1], 1)
		end := first + size(month[0], month[1]) - 1
		for _, gap := range [][2]int{{first - 3, first + 2}, {end - 2, end + 3}, {first - 2, end + 2}, {first, end}, {first, end - 1}, {first + 1, end}, {first - 10, first + 10}} {
			var free []int
			for n := gap[0]; n <= gap[1]; n++ {
				free = append(free, n)
			}
			agrees(t, model{none, free}, max(1, first-12), min(last, end+12))
			agrees(t, model{ends, free}, max(1, first-12), min(last, end+12))
		}
	}
}

func TestAdjustByHand(t *testing.T) {
	// 2024: 1 June is a Saturday, 30 June a Sunday.
	c := calendar.New(ends, nil)
	june := func(d int) int { return day(t, 2024, 6, d) }
	for _, x := range []struct{ n, following, modified, preceding, modifiedPreceding int }{
		{june(1), june(3), june(3), june(1) - 1, june(3)},
		{june(2), june(3), june(3), june(1) - 1, june(3)},
		{june(3), june(3), june(3), june(3), june(3)},
		{june(8), june(10), june(10), june(7), june(7)},
		{june(29), june(30) + 1, june(28), june(28), june(28)},
		{june(30), june(30) + 1, june(28), june(28), june(28)},
	} {
		for convention, want := range map[int]int{api.Following: x.following, api.ModifiedFollowing: x.modified, api.Preceding: x.preceding, api.ModifiedPreceding: x.modifiedPreceding} {
			got, err := c.Adjust(x.n, convention)
			holds(t, "Adjust", []any{date(t, x.n), convention}, got, err, want, api.OK)
		}
	}
}

// TestAdjustWhereOneSideLacks: at the first and the last days there may be no preceding or no following one.
func TestAdjustWhereOneSideLacks(t *testing.T) {
	low := calendar.New(none, []int{1, 2, 3})
	for convention, want := range []int{4, 4, 0, 4} {
		got, err := low.Adjust(2, convention)
		holds(t, "Adjust", []int{2, convention}, got, err, want, found(want))
	}
	high := calendar.New(none, []int{last, last - 1})
	for convention, want := range []int{0, last - 2, last - 2, last - 2} {
		got, err := high.Adjust(last, convention)
		holds(t, "Adjust", []int{last, convention}, got, err, want, found(want))
	}
	// The whole first month is free: what follows lies in another month, and nothing precedes. So it is with the last month.
	var first, final []int
	for k := range 31 {
		first, final = append(first, 1+k), append(final, last-k)
	}
	low = calendar.New(none, first)
	for convention, want := range []int{32, 0, 0, 32} {
		got, err := low.Adjust(5, convention)
		holds(t, "Adjust", []int{5, convention}, got, err, want, found(want))
	}
	high = calendar.New(none, final)
	for convention, want := range []int{0, last - 31, last - 31, 0} {
		got, err := high.Adjust(last-3, convention)
		holds(t, "Adjust", []int{last - 3, convention}, got, err, want, found(want))
	}
}

// TestAdjustOverAYear: a month of the same name in another year is another month.
func TestAdjustOverAYear(t *testing.T) {
	var free []int
	for n := day(t, 2024, 1, 1); n <= day(t, 2025, 1, 5); n++ {
		free = append(free, n)
	}
	c := calendar.New(none, free)
	before, behind := day(t, 2023, 12, 31), day(t, 2025, 1, 6)
	for convention, want := range []int{behind, before, before, behind} {
		got, err := c.Adjust(day(t, 2024, 1, 15), convention)
		holds(t, "Adjust", convention, got, err, want, api.OK)
	}
	for n := day(t, 2023, 1, 30); n <= before; n++ {
		free = append(free, n)
	}
	c = calendar.New(none, free)
	before = day(t, 2023, 1, 29)
	for convention, want := range []int{behind, before, before, behind} {
		got, err := c.Adjust(day(t, 2024, 1, 15), convention)
		holds(t, "Adjust", convention, got, err, want, api.OK)
	}
}

func TestAdjustRefuses(t *testing.T) {
	wrong := []int{-1, 4, 5, math.MaxInt, math.MinInt, 1 << 32}
	for _, c := range []*calendar.Calendar{calendar.New(ends, nil), calendar.New(whole, nil)} {
		for _, n := range noDays {
			for _, convention := range append([]int{0, 1, 2, 3}, wrong...) {
				got, err := c.Adjust(n, convention)
				holds(t, "Adjust", []int{n, convention}, got, err, 0, api.ErrDate)
			}
		}
		for _, n := range []int{1, 5, 6, last} {
			for _, convention := range wrong {
				got, err := c.Adjust(n, convention)
				holds(t, "Adjust", []int{n, convention}, got, err, 0, api.ErrArg)
			}
		}
	}
}

// P3.21

func TestLawsOfAdjust(t *testing.T) {
	x := noise(21)
	for range 100 {
		start := 1 + x.next(last-400)
		var free []int
		for range 250 {
			free = append(free, start+x.next(400))
		}
		c := calendar.New(ends, free)
		for n := start; n < start+400; n++ {
			for convention := range 4 {
				got, err := c.Adjust(n, convention)
				if err != nil {
					continue
				}
				if !c.Business(got) || c.Business(n) && got != n {
					t.Fatalf("Adjust(%d, %d) is %d", n, convention, got)
				}
				if convention == api.Following && got < n || convention == api.Preceding && got > n {
					t.Fatalf("Adjust(%d, %d) is %d, on the wrong side", n, convention, got)
				}
				if convention%2 == 1 && !within(t, n, got) && openMonth(t, c, n) {
					t.Fatalf("Adjust(%d, %d) is %d, outside a month that has a business day", n, convention, got)
				}
			}
		}
	}
}

func within(t *testing.T, n, k int) bool {
	a, b := date(t, n), date(t, k)
	return a.Year == b.Year && a.Month == b.Month
}

// openMonth tells whether the month of a day has a business day.
func openMonth(t *testing.T, c *calendar.Calendar, n int) bool {
	d := date(t, n)
	first := n - d.Day + 1
	for k := range size(d.Year, d.Month) {
		if c.Business(first + k) {
			return true
		}
	}
	return false
}

// P3.13, P3.20

func TestCountRefuses(t *testing.T) {
	for _, c := range []*calendar.Calendar{calendar.New(ends, nil), calendar.New(whole, []int{3})} {
		for _, n := range noDays {
			for _, k := range []int{1, 5, last, 0, -1, last + 1} {
				got, err := c.Count(n, k)
				holds(t, "Count", []int{n, k}, got, err, 0, api.ErrDate)
				got, err = c.Count(k, n)
				holds(t, "Count", []int{k, n}, got, err, 0, api.ErrDate)
			}
		}
		for _, x := range [][2]int{{2, 1}, {last, 1}, {last, last - 1}} {
			got, err := c.Count(x[0], x[1])
			holds(t, "Count", x, got, err, 0, api.ErrArg)
		}
	}
}

func TestCountOfSpans(t *testing.T) {
	c := calendar.New(ends, []int{2, 2, 6, 100, last})
	for _, x := range []struct{ a, b, want int }{
		{1, 1, 0}, {5, 5, 0}, {last, last, 0}, {1, 2, 1}, {2, 3, 0}, {1, 8, 4}, {1, 9, 5}, {6, 8, 0}, {last - 1, last, 1}, {last - 4, last, 4},
		{1, last, 521722*5 + 4 - 2},
	} {
		got, err := c.Count(x.a, x.b)
		holds(t, "Count", []int{x.a, x.b}, got, err, x.want, api.OK)
	}
}

func TestCountsAddUp(t *testing.T) {
	x := noise(20)
	target, err := calendar.Target(1, 9999)
	if err != nil {
		t.Fatal(err)
	}
	few := calendar.New([7]bool{2: true}, []int{10, 11, 3000000})
	count := func(c *calendar.Calendar, a, b int) int {
		n, err := c.Count(a, b)
		if err != nil {
			t.Fatalf("Count(%d, %d): %v", a, b, err)
		}
		return n
	}
	for _, c := range []*calendar.Calendar{target, few} {
		for range 100 {
			days := []int{1 + x.next(last), 1 + x.next(last), 1 + x.next(last)}
			slices.Sort(days)
			if count(c, days[0], days[1])+count(c, days[1], days[2]) != count(c, days[0], days[2]) {
				t.Errorf("the counts of %v do not add up", days)
			}
			n, err := c.Adjust(days[0], api.Following)
			if err != nil {
				continue
			}
			for _, k := range []int{0, 1, 2, 17, 1000, x.next(1000000)} {
				if to, err := c.Add(n, k); err == nil && count(c, n, to) != k {
					t.Errorf("Count(%d, %d) is %d, want %d", n, to, count(c, n, to), k)
				}
			}
		}
	}
}

// R4

func TestFreeDaysAreNotChangedOrKept(t *testing.T) {
	room := []int{9, 3, 3, -5, last + 9, 2, 77, 78, 79}
	free := room[:6]
	before := slices.Clone(room)
	c := calendar.New(none, free)
	if _, err := c.Add(1, 5); err != nil || !slices.Equal(room, before) {
		t.Errorf("New changed its list to %v, %v", room, err)
	}
	for i := range room {
		room[i] = 20 + i
	}
	for n := 1; n <= 100; n++ {
		if free := n == 2 || n == 3 || n == 9; c.Business(n) == free {
			t.Errorf("behind a change of the list Business(%d) is %v", n, free)
		}
	}
}

func TestCalendarsAreApart(t *testing.T) {
	free := []int{5}
	a := calendar.New(none, free)
	free[0] = 6
	b := calendar.New(ends, free)
	if a.Business(5) || !a.Business(6) || !b.Business(5) || b.Business(6) || !a.Business(7) || b.Business(7) {
		t.Error("a calendar has another's free days")
	}
	x, _ := calendar.Target(2023, 2023)
	y, _ := calendar.Target(2024, 2024)
	if x == y || !x.Business(day(t, 2024, 1, 1)) || y.Business(day(t, 2024, 1, 1)) {
		t.Error("a Target has another's free days")
	}
}

// R5: asked many times and from many sides, a calendar answers the same.
func TestCalendarAnswersTheSame(t *testing.T) {
	c, err := calendar.Target(2020, 2029)
	if err != nil {
		t.Fatal(err)
	}
	from, to := day(t, 2019, 1, 1), day(t, 2031, 1, 1)
	want, _ := c.Count(from, to)
	var group sync.WaitGroup
	for range 4 {
		group.Add(1)
		go func() {
			defer group.Done()
			for range 200 {
				if got, err := c.Count(from, to); got != want || err != nil {
					t.Errorf("Count is %d, %v; want %d", got, err, want)
				}
			}
		}()
	}
	group.Wait()
}
