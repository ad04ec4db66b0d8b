package calendar_test

import (
	"math"
	"testing"
	"time"

	"custody/api"
	"custody/calendar"
	"custody/proof"
)

const last = 3652059 // 31 December 9999

// noDays are numbers that are no days, the nearest first.
var noDays = []int{0, last + 1, -1, last + 2, -last, math.MaxInt, math.MinInt, math.MaxInt - 1, math.MinInt + 1, 1 << 32, 1<<32 + 5}

// holds checks a number and an error that a call answered.
func holds(t *testing.T, call string, args any, got int, err error, want int, no api.Errno) {
	t.Helper()
	if got != want || !proof.Tells(err, no) {
		t.Errorf("%s%v is %d, %v; want %d, %v", call, args, got, err, want, no)
	}
}

// noise is a row of numbers that is the same in each run.
type noise uint64

func (x *noise) next(n int) int {
	*x ^= *x << 13
	*x ^= *x >> 7
	*x ^= *x << 17
	return int(uint64(*x) >> 1 % uint64(n))
}

// day is the number of a right date.
func day(t testing.TB, year, month, d int) int {
	t.Helper()
	n, err := calendar.Number(api.Date{Year: year, Month: month, Day: d})
	if err != nil {
		t.Fatalf("Number of %d %d %d: %v", year, month, d, err)
	}
	return n
}

// date is the date of a day.
func date(t testing.TB, n int) api.Date {
	t.Helper()
	d, err := calendar.Of(n)
	if err != nil {
		t.Fatalf("Of(%d): %v", n, err)
	}
	return d
}

// size is how many days a month has, told by months and years one by one.
func size(year, month int) int {
	switch month {
	case 4, 6, 9, 11:
		return 30
	case 2:
		if year%400 == 0 {
			return 29
		}
		if year%100 == 0 {
			return 28
		}
		if year%4 == 0 {
			return 29
		}
		return 28
	}
	return 31
}

// tomorrow is the date behind a date.
func tomorrow(d api.Date) api.Date {
	d.Day++
	if d.Day > size(d.Year, d.Month) {
		d.Day = 1
		d.Month++
	}
	if d.Month > 12 {
		d.Month = 1
		d.Year++
	}
	return d
}

// some calls f with days all over the range: the ends, and some thousand between.
func some(f func(n int)) {
	for n := 1; n <= 800; n++ {
		f(n)
		f(last + 1 - n)
	}
	for n := 801; n < last-800; n += 997 {
		f(n)
	}
}

// P3.1, P3.2

func TestNumberOfExamples(t *testing.T) {
	for _, x := range []struct{ year, month, day, want int }{
		{1, 1, 1, 1}, {1, 1, 31, 31}, {1, 2, 1, 32}, {1, 3, 1, 60}, {1, 12, 31, 365}, {2, 1, 1, 366},
		{4, 2, 29, 1155}, {4, 12, 31, 1461}, {100, 12, 31, 36524}, {400, 12, 31, 146097},
		{1582, 10, 15, 577736}, {1900, 2, 28, 693654}, {1900, 3, 1, 693655}, {1970, 1, 1, 719163},
		{2000, 2, 29, 730179}, {2023, 1, 1, 738521}, {2024, 2, 29, 738945}, {9999, 12, 31, last},
	} {
		d := api.Date{Year: x.year, Month: x.month, Day: x.day}
		n, err := calendar.Number(d)
		holds(t, "Number", d, n, err, x.want, api.OK)
		if got, err := calendar.Of(x.want); got != d || err != nil {
			t.Errorf("Of(%d) is %v, %v; want %v", x.want, got, err, d)
		}
	}
}

func TestNumberRefusesYears(t *testing.T) {
	for _, year := range []int{0, 10000, -1, -4, -400, 10001, 12000, math.MaxInt, math.MinInt, 1<<32 + 2024} {
		for month := 1; month <= 12; month++ {
			for _, d := range []api.Date{{Year: year, Month: month, Day: 1}, {Year: year, Month: month, Day: 28}} {
				n, err := calendar.Number(d)
				holds(t, "Number", d, n, err, 0, api.ErrDate)
			}
		}
	}
}

func TestNumberRefusesMonths(t *testing.T) {
	for _, year := range []int{1, 2000, 2023, 2024, 9999} {
		for _, month := range []int{0, 13, -1, 14, 24, -11, math.MaxInt, math.MinInt, 1<<32 + 1} {
			d := api.Date{Year: year, Month: month, Day: 1}
			n, err := calendar.Number(d)
			holds(t, "Number", d, n, err, 0, api.ErrDate)
		}
	}
}

func TestNumberRefusesDays(t *testing.T) {
	for _, year := range []int{1, 3, 4, 100, 200, 300, 400, 1900, 2000, 2023, 2024, 2100, 9996, 9999} {
		for month := 1; month <= 12; month++ {
			first, end := api.Date{Year: year, Month: month, Day: 1}, api.Date{Year: year, Month: month, Day: size(year, month)}
			a, b := day(t, year, month, 1), day(t, year, month, end.Day)
			if b-a+1 != end.Day || date(t, a) != first || date(t, b) != end {
				t.Errorf("the month %d of %d is from %d to %d", month, year, a, b)
			}
			for _, k := range []int{0, end.Day + 1, -1, end.Day + 2, 32, math.MaxInt, math.MinInt} {
				d := api.Date{Year: year, Month: month, Day: k}
				n, err := calendar.Number(d)
				holds(t, "Number", d, n, err, 0, api.ErrDate)
			}
		}
	}
}

func TestLeapDays(t *testing.T) {
	for year := 1; year <= api.MaxYear; year++ {
		no := api.ErrDate
		if size(year, 2) == 29 {
			no = api.OK
		}
		d := api.Date{Year: year, Month: 2, Day: 29}
		if n, err := calendar.Number(d); !proof.Tells(err, no) || (n != 0) != (no == api.OK) {
			t.Errorf("Number(%v) is %d, %v; want %v", d, n, err, no)
		}
	}
}

func TestOfRefuses(t *testing.T) {
	for _, n := range noDays {
		if d, err := calendar.Of(n); (d != api.Date{}) || !proof.Tells(err, api.ErrDate) {
			t.Errorf("Of(%d) is %v, %v; want ErrDate", n, d, err)
		}
	}
}

// P3.14, P3.1, P3.2, P3.3: every day, counted one by one.

func TestEveryDay(t *testing.T) {
	d := api.Date{Year: 1, Month: 1, Day: 1}
	for n := 1; n <= last; n++ {
		if got, err := calendar.Of(n); got != d || err != nil {
			t.Fatalf("Of(%d) is %v, %v; want %v", n, got, err, d)
		}
		if got, err := calendar.Number(d); got != n || err != nil {
			t.Fatalf("Number(%v) is %d, %v; want %d", d, got, err, n)
		}
		if got, err := calendar.Weekday(n); got != (n+6)%7 || err != nil {
			t.Fatalf("Weekday(%d) is %d, %v; want %d", n, got, err, (n+6)%7)
		}
		d = tomorrow(d)
	}
	if d.Year != api.MaxYear+1 {
		t.Errorf("behind the last day comes %v", d)
	}
}

func TestEarlierDateHasLesserNumber(t *testing.T) {
	earlier := func(a, b api.Date) bool {
		if a.Year != b.Year {
			return a.Year < b.Year
		}
		if a.Month != b.Month {
			return a.Month < b.Month
		}
		return a.Day < b.Day
	}
	x := noise(3)
	for range 20000 {
		a, b := 1+x.next(last), 1+x.next(last)
		if earlier(date(t, a), date(t, b)) != (a < b) {
			t.Errorf("the days %d and %d are %v and %v", a, b, date(t, a), date(t, b))
		}
	}
}

// P3.15

func TestCycle(t *testing.T) {
	for n := 1; n+146097 <= last; n += 31 {
		d, later := date(t, n), date(t, n+146097)
		d.Year += 400
		if d != later {
			t.Fatalf("400 years behind day %d is %v, want %v", n, later, d)
		}
		a, _ := calendar.Weekday(n)
		b, _ := calendar.Weekday(n + 146097)
		if a != b {
			t.Fatalf("Weekday(%d) is %d, 400 years later %d", n, a, b)
		}
	}
	for year := 1; year+400 <= api.MaxYear; year++ {
		if n := day(t, year+400, 1, 1) - day(t, year, 1, 1); n != 146097 {
			t.Errorf("from %d on 400 years have %d days", year, n)
		}
	}
}

// P3.3

func TestWeekday(t *testing.T) {
	for _, x := range []struct{ n, want int }{{1, 0}, {2, 1}, {3, 2}, {4, 3}, {5, 4}, {6, 5}, {7, 6}, {8, 0}, {738521, 6}, {last, 4}} {
		got, err := calendar.Weekday(x.n)
		holds(t, "Weekday", x.n, got, err, x.want, api.OK)
	}
	for _, n := range noDays {
		got, err := calendar.Weekday(n)
		holds(t, "Weekday", n, got, err, 0, api.ErrDate)
	}
}

// P3.4, P3.16

func TestWeekExamples(t *testing.T) {
	for _, x := range []struct{ year, month, day, y, w int }{
		{2023, 1, 1, 2022, 52}, {2023, 1, 2, 2023, 1}, {2024, 1, 1, 2024, 1}, {2024, 12, 29, 2024, 52}, {2024, 12, 30, 2025, 1}, {2024, 12, 31, 2025, 1},
		{2020, 12, 27, 2020, 52}, {2020, 12, 28, 2020, 53}, {2020, 12, 31, 2020, 53}, {2021, 1, 3, 2020, 53}, {2021, 1, 4, 2021, 1},
		{2009, 12, 31, 2009, 53}, {2010, 1, 3, 2009, 53}, {2016, 1, 1, 2015, 53}, {2005, 1, 1, 2004, 53}, {2006, 1, 1, 2005, 52}, {2000, 1, 1, 1999, 52},
		{1, 1, 1, 1, 1}, {1, 1, 7, 1, 1}, {1, 1, 8, 1, 2}, {1, 12, 31, 2, 1}, {9999, 12, 26, 9999, 51}, {9999, 12, 27, 9999, 52}, {9999, 12, 31, 9999, 52},
	} {
		y, w, err := calendar.Week(day(t, x.year, x.month, x.day))
		if y != x.y || w != x.w || err != nil {
			t.Errorf("Week of %d %d %d is %d %d, %v; want %d %d", x.year, x.month, x.day, y, w, err, x.y, x.w)
		}
	}
}

func TestWeekRefuses(t *testing.T) {
	for _, n := range noDays {
		if y, w, err := calendar.Week(n); y != 0 || w != 0 || !proof.Tells(err, api.ErrDate) {
			t.Errorf("Week(%d) is %d %d, %v; want ErrDate", n, y, w, err)
		}
	}
}

func TestWeekOfEveryDay(t *testing.T) {
	at := time.Date(1, 1, 1, 0, 0, 0, 0, time.UTC)
	for n := 1; n <= last; n++ {
		wantYear, wantWeek := at.ISOWeek()
		if y, w, err := calendar.Week(n); y != wantYear || w != wantWeek || err != nil {
			t.Fatalf("Week(%d) is %d %d, %v; want %d %d", n, y, w, err, wantYear, wantWeek)
		}
		at = at.AddDate(0, 0, 1)
	}
}

// TestWeeksFollowOneAnother goes from Monday to Monday: seven days have one week, the next has the next number, or 1 behind the 52nd or 53rd.
func TestWeeksFollowOneAnother(t *testing.T) {
	long := 0
	for monday := 1; monday+7 <= last; monday += 7 {
		y, w, _ := calendar.Week(monday)
		first, _ := calendar.Weekday(monday)
		for k := 1; k < 7; k++ {
			a, b, err := calendar.Week(monday + k)
			if a != y || b != w || err != nil {
				t.Fatalf("Week(%d) is %d %d, that of its Monday %d %d", monday+k, a, b, y, w)
			}
		}
		a, b, _ := calendar.Week(monday + 7)
		same := a == y && b == w+1
		next := a == y+1 && b == 1 && (w == 52 || w == 53)
		if second, _ := calendar.Weekday(monday + 7); !same && !next || first != second {
			t.Fatalf("behind the week %d %d comes %d %d", y, w, a, b)
		}
		if next && w == 53 {
			long++
		}
	}
	// Of 400 years 71 have 53 weeks; the years 1 to 9999 are those of 25 cycles but the last, 10000, which is a short one as 400 is.
	if long != 25*71 {
		t.Errorf("%d years have 53 weeks", long)
	}
}

// P3.5, P3.17

func TestEasterExamples(t *testing.T) {
	for _, x := range [][3]int{{2024, 3, 31}, {2025, 4, 20}, {1954, 4, 18}, {1981, 4, 19}, {1818, 3, 22}, {1943, 4, 25}, {2000, 4, 23}, {2008, 3, 23}, {2038, 4, 25}, {2285, 3, 22}, {1583, 4, 10}} {
		got, err := calendar.Easter(x[0])
		holds(t, "Easter", x[0], got, err, day(t, x[0], x[1], x[2]), api.OK)
	}
	for _, year := range []int{0, 10000, -1, 10001, -2024, math.MaxInt, math.MinInt} {
		got, err := calendar.Easter(year)
		holds(t, "Easter", year, got, err, 0, api.ErrDate)
	}
}

// easter is Easter by the rule of Meeus, Jones and Butcher, of which no step is below 0.
func easter(year int) (int, int) {
	a, b, c := year%19, year/100, year%100
	d, e := b/4, b%4
	f := (b + 8) / 25
	g := (b - f + 1) / 3
	h := (19*a + b - d - g + 15) % 30
	i, k := c/4, c%4
	l := (32 + 2*e + 2*i - h - k) % 7
	m := (a + 11*h + 22*l) / 451
	n := h + l - 7*m + 114
	return n / 31, n%31 + 1
}

func TestEasterOfEveryYear(t *testing.T) {
	early, late := false, false
	for year := 1; year <= api.MaxYear; year++ {
		n, err := calendar.Easter(year)
		month, d := easter(year)
		holds(t, "Easter", year, n, err, day(t, year, month, d), api.OK)
		if w, _ := calendar.Weekday(n); w != 6 {
			t.Errorf("Easter(%d) is no Sunday, but %d", year, w)
		}
		first, end := day(t, year, 3, 22), day(t, year, 4, 25)
		if n < first || n > end {
			t.Errorf("Easter(%d) is %v", year, date(t, n))
		}
		early, late = early || n == first, late || n == end
	}
	if !early || !late {
		t.Error("no Easter on 22 March, or none on 25 April")
	}
}

// P3.6, P3.18

func TestMonthsExamples(t *testing.T) {
	for _, x := range []struct {
		from api.Date
		k    int
		want api.Date
	}{
		{api.Date{Year: 2024, Month: 1, Day: 31}, 0, api.Date{Year: 2024, Month: 1, Day: 31}},
		{api.Date{Year: 2024, Month: 1, Day: 31}, 1, api.Date{Year: 2024, Month: 2, Day: 29}},
		{api.Date{Year: 2024, Month: 1, Day: 31}, 13, api.Date{Year: 2025, Month: 2, Day: 28}},
		{api.Date{Year: 2024, Month: 1, Day: 31}, -2, api.Date{Year: 2023, Month: 11, Day: 30}},
		{api.Date{Year: 2024, Month: 1, Day: 31}, -1, api.Date{Year: 2023, Month: 12, Day: 31}},
		{api.Date{Year: 2024, Month: 12, Day: 31}, 1, api.Date{Year: 2025, Month: 1, Day: 31}},
		{api.Date{Year: 2024, Month: 12, Day: 1}, 1, api.Date{Year: 2025, Month: 1, Day: 1}},
		{api.Date{Year: 2024, Month: 1, Day: 1}, -1, api.Date{Year: 2023, Month: 12, Day: 1}},
		{api.Date{Year: 2024, Month: 2, Day: 29}, 12, api.Date{Year: 2025, Month: 2, Day: 28}},
		{api.Date{Year: 2024, Month: 2, Day: 29}, 48, api.Date{Year: 2028, Month: 2, Day: 29}},
		{api.Date{Year: 2024, Month: 2, Day: 29}, 1, api.Date{Year: 2024, Month: 3, Day: 29}},
		{api.Date{Year: 2023, Month: 2, Day: 28}, 1, api.Date{Year: 2023, Month: 3, Day: 28}},
		{api.Date{Year: 1, Month: 1, Day: 1}, 119987, api.Date{Year: 9999, Month: 12, Day: 1}},
		{api.Date{Year: 9999, Month: 12, Day: 31}, -119987, api.Date{Year: 1, Month: 1, Day: 31}},
	} {
		got, err := calendar.Months(day(t, x.from.Year, x.from.Month, x.from.Day), x.k)
		holds(t, "Months", []any{x.from, x.k}, got, err, day(t, x.want.Year, x.want.Month, x.want.Day), api.OK)
	}
}

func TestMonthsRefuses(t *testing.T) {
	great := []int{0, 1, -1, 119988, -119988, 120000, -120000, math.MaxInt, math.MinInt, math.MaxInt - 1, math.MinInt + 1, math.MaxInt32, math.MinInt32}
	for _, n := range noDays {
		for _, k := range great {
			got, err := calendar.Months(n, k)
			holds(t, "Months", []int{n, k}, got, err, 0, api.ErrDate)
		}
	}
	some(func(n int) {
		for _, k := range great[3:] {
			got, err := calendar.Months(n, k)
			holds(t, "Months", []int{n, k}, got, err, 0, api.ErrDate)
		}
	})
}

// TestMonthsOverTheEnds: from every 37th day the furthest months on either side are answered, and no month further.
func TestMonthsOverTheEnds(t *testing.T) {
	for n := 1; n <= last; n += 37 {
		d := date(t, n)
		back := 12*(d.Year-1) + d.Month - 1
		on := 12*(9999-d.Year) + 12 - d.Month
		got, err := calendar.Months(n, -back)
		holds(t, "Months", []int{n, -back}, got, err, d.Day, api.OK)
		got, err = calendar.Months(n, on)
		holds(t, "Months", []int{n, on}, got, err, last-31+d.Day, api.OK)
		got, err = calendar.Months(n, -back-1)
		holds(t, "Months", []int{n, -back - 1}, got, err, 0, api.ErrDate)
		got, err = calendar.Months(n, on+1)
		holds(t, "Months", []int{n, on + 1}, got, err, 0, api.ErrDate)
	}
}

// TestMonthsOneByOne goes from each of two leap years' and two other years' days month by month, on and back.
func TestMonthsOneByOne(t *testing.T) {
	for n := day(t, 1899, 1, 1); n <= day(t, 1904, 12, 31); n++ {
		for _, step := range []int{1, -1} {
			d := date(t, n)
			at := d
			for k := 0; k <= 60; k++ {
				want := day(t, at.Year, at.Month, min(d.Day, size(at.Year, at.Month)))
				got, err := calendar.Months(n, step*k)
				holds(t, "Months", []int{n, step * k}, got, err, want, api.OK)
				at.Month += step
				if at.Month < 1 || at.Month > 12 {
					at.Month -= 12 * step
					at.Year += step
				}
			}
		}
	}
}

func TestMonthsKeepTheDay(t *testing.T) {
	x := noise(6)
	for range 20000 {
		n, k := 1+x.next(last), x.next(4001)-2000
		there, err := calendar.Months(n, k)
		if err != nil || date(t, n).Day > 28 {
			continue
		}
		if date(t, there).Day != date(t, n).Day {
			t.Errorf("Months(%d, %d) is %v from %v", n, k, date(t, there), date(t, n))
		}
		back, err := calendar.Months(there, -k)
		holds(t, "Months", []int{there, -k}, back, err, n, api.OK)
	}
}

// P3.7

func TestFractionExamples(t *testing.T) {
	day360 := func(a, b api.Date) [2]int { // Thirty and ThirtyEu, as the table's words say them
		rest := func(da, db int) int { return 360*(b.Year-a.Year) + 30*(b.Month-a.Month) + db - da }
		da, db := a.Day, b.Day
		if da == 31 {
			da = 30
		}
		if db == 31 && da == 30 {
			db = 30
		}
		ea, eb := a.Day, b.Day
		if ea == 31 {
			ea = 30
		}
		if eb == 31 {
			eb = 30
		}
		return [2]int{rest(da, db), rest(ea, eb)}
	}
	x := noise(7)
	check := func(a, b int) {
		want := day360(date(t, a), date(t, b))
		for basis, w := range [][2]int{{b - a, 360}, {b - a, 365}, {want[0], 360}, {want[1], 360}} {
			up, down, err := calendar.Fraction(a, b, basis)
			if up != w[0] || down != w[1] || err != nil {
				t.Errorf("Fraction(%v, %v, %d) is %d %d, %v; want %v", date(t, a), date(t, b), basis, up, down, err, w)
			}
		}
	}
	first := day(t, 2023, 1, 1)
	for a := first; a < first+500; a++ {
		for b := a; b < first+500; b++ {
			check(a, b)
		}
	}
	for range 20000 {
		a, b := 1+x.next(last), 1+x.next(last)
		check(min(a, b), max(a, b))
	}
	check(1, last)
}

func TestFractionByHand(t *testing.T) {
	for _, x := range []struct {
		a, b                   api.Date
		days, thirty, european int
	}{
		{api.Date{Year: 2024, Month: 1, Day: 31}, api.Date{Year: 2024, Month: 3, Day: 31}, 60, 60, 60},
		{api.Date{Year: 2024, Month: 1, Day: 15}, api.Date{Year: 2024, Month: 3, Day: 31}, 76, 76, 75},
		{api.Date{Year: 2024, Month: 1, Day: 30}, api.Date{Year: 2024, Month: 3, Day: 31}, 61, 60, 60},
		{api.Date{Year: 2024, Month: 1, Day: 31}, api.Date{Year: 2024, Month: 3, Day: 30}, 59, 60, 60},
		{api.Date{Year: 2024, Month: 1, Day: 30}, api.Date{Year: 2024, Month: 1, Day: 31}, 1, 0, 0},
		{api.Date{Year: 2024, Month: 1, Day: 29}, api.Date{Year: 2024, Month: 1, Day: 31}, 2, 2, 1},
		{api.Date{Year: 2024, Month: 1, Day: 31}, api.Date{Year: 2024, Month: 2, Day: 29}, 29, 29, 29},
		{api.Date{Year: 2023, Month: 1, Day: 31}, api.Date{Year: 2023, Month: 2, Day: 28}, 28, 28, 28},
		{api.Date{Year: 2024, Month: 2, Day: 29}, api.Date{Year: 2024, Month: 3, Day: 31}, 31, 32, 31},
		{api.Date{Year: 2023, Month: 2, Day: 28}, api.Date{Year: 2023, Month: 3, Day: 31}, 31, 33, 32},
		{api.Date{Year: 2023, Month: 2, Day: 28}, api.Date{Year: 2023, Month: 3, Day: 1}, 1, 3, 3},
		{api.Date{Year: 2023, Month: 2, Day: 28}, api.Date{Year: 2024, Month: 2, Day: 29}, 366, 361, 361},
		{api.Date{Year: 2023, Month: 12, Day: 31}, api.Date{Year: 2024, Month: 1, Day: 1}, 1, 1, 1},
		{api.Date{Year: 2024, Month: 5, Day: 31}, api.Date{Year: 2024, Month: 5, Day: 31}, 0, 0, 0},
		{api.Date{Year: 1, Month: 1, Day: 1}, api.Date{Year: 9999, Month: 12, Day: 31}, 3652058, 3599640, 3599639},
	} {
		a, b := day(t, x.a.Year, x.a.Month, x.a.Day), day(t, x.b.Year, x.b.Month, x.b.Day)
		for basis, want := range map[int][2]int{api.Act360: {x.days, 360}, api.Act365: {x.days, 365}, api.Thirty: {x.thirty, 360}, api.ThirtyEu: {x.european, 360}} {
			if up, down, err := calendar.Fraction(a, b, basis); up != want[0] || down != want[1] || err != nil {
				t.Errorf("Fraction(%v, %v, %d) is %d %d, %v; want %v", x.a, x.b, basis, up, down, err, want)
			}
		}
	}
}

func TestFractionRefuses(t *testing.T) {
	refuses := func(a, b, basis int, no api.Errno) {
		t.Helper()
		if up, down, err := calendar.Fraction(a, b, basis); up != 0 || down != 0 || !proof.Tells(err, no) {
			t.Errorf("Fraction(%d, %d, %d) is %d %d, %v; want %v", a, b, basis, up, down, err, no)
		}
	}
	none := []int{-1, 4, 5, math.MaxInt, math.MinInt, 1 << 32}
	for _, n := range noDays {
		for _, basis := range append([]int{0, 1, 2, 3}, none...) {
			refuses(n, 5, basis, api.ErrDate)
			refuses(5, n, basis, api.ErrDate)
			refuses(n, n, basis, api.ErrDate)
		}
	}
	for _, basis := range none {
		refuses(5, 5, basis, api.ErrArg)
		refuses(5, 6, basis, api.ErrArg)
		refuses(6, 5, basis, api.ErrArg)
	}
	for basis := range 4 {
		refuses(6, 5, basis, api.ErrArg)
		refuses(last, 1, basis, api.ErrArg)
	}
}
