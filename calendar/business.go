package calendar

import "custody/api"

// Calendar tells business days.
type Calendar struct {
	weekend [7]bool
	// free has none of the weekend's days, so that a day that is free twice over is counted once.
	free map[int]struct{}
}

// New is a calendar of days of the week that are free, and of further free days.
func New(weekend [7]bool, free []int) *Calendar {
	c := &Calendar{weekend: weekend, free: make(map[int]struct{})}
	for _, n := range free {
		if isDay(n) && !weekend[weekday(n)] {
			c.free[n] = struct{}{}
		}
	}
	return c
}

// Target is the calendar of the euro's payment system for some years.
func Target(from, to int) (*Calendar, error) {
	if !isYear(from) || !isYear(to) {
		return nil, api.ErrDate
	}
	if to < from {
		return nil, api.ErrArg
	}
	var free []int
	for year := from; year <= to; year++ {
		sunday := easter(year)
		free = append(free,
			number(api.Date{Year: year, Month: 1, Day: 1}),
			sunday-2,
			sunday+1,
			number(api.Date{Year: year, Month: 5, Day: 1}),
			number(api.Date{Year: year, Month: 12, Day: 25}),
			number(api.Date{Year: year, Month: 12, Day: 26}))
	}
	return New([7]bool{5: true, 6: true}, free), nil
}

// Business tells whether a day is one.
func (c *Calendar) Business(n int) bool {
	if !isDay(n) || c.weekend[weekday(n)] {
		return false
	}
	_, free := c.free[n]
	return !free
}

// Add is the k-th business day behind (or ahead of) a day.
func (c *Calendar) Add(n, k int) (int, error) {
	if !isDay(n) {
		return 0, api.ErrDate
	}
	// Each leap is as long as there are business days to go, so it passes none too many; the last one has business days alone, and ends on the one that is asked for.
	for k != 0 {
		if k > lastDay-n || k < 1-n {
			return 0, api.ErrDate
		}
		if k > 0 {
			n, k = n+k, k-c.count(n+1, n+k+1)
		} else {
			n, k = n+k, k+c.count(n+k, n)
		}
	}
	return n, nil
}

// Adjust is the business day that stands for a day.
func (c *Calendar) Adjust(n, convention int) (int, error) {
	if !isDay(n) {
		return 0, api.ErrDate
	}
	if convention < api.Following || convention > api.ModifiedPreceding {
		return 0, api.ErrArg
	}
	if c.Business(n) {
		return n, nil
	}
	step := 1
	if convention == api.Preceding || convention == api.ModifiedPreceding {
		step = -1
	}
	day, err := c.Add(n, step)
	modified := convention == api.ModifiedFollowing || convention == api.ModifiedPreceding
	if modified && (err != nil || !sameMonth(n, day)) {
		return c.Add(n, -step)
	}
	return day, err
}

// Count is how many business days are from a up to but not b.
func (c *Calendar) Count(a, b int) (int, error) {
	if !isDay(a) || !isDay(b) {
		return 0, api.ErrDate
	}
	if b < a {
		return 0, api.ErrArg
	}
	return c.count(a, b), nil
}

// count is Count, of which b may be the number behind the last day too.
func (c *Calendar) count(a, b int) int {
	sum := 0
	for k := range min(b-a, 7) {
		if !c.weekend[weekday(a+k)] {
			sum += (b - a - k + 6) / 7 // how often this day of the week comes
		}
	}
	if sum == 0 { // then none of them can be a further free day: long free times are passed quickly
		return 0
	}
	return sum - c.freeWithin(a, b)
}

// freeWithin is how many further free days are from a up to but not b.
func (c *Calendar) freeWithin(a, b int) int {
	sum := 0
	if b-a < len(c.free) { // asking each day is less work than going through all that are free
		for n := a; n < b; n++ {
			if _, free := c.free[n]; free {
				sum++
			}
		}
		return sum
	}
	for n := range c.free {
		if a <= n && n < b {
			sum++
		}
	}
	return sum
}

func sameMonth(a, b int) bool { return monthOf(dateOf(a)) == monthOf(dateOf(b)) }
