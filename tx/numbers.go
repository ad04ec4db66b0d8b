package tx

import "slices"

// stableRises is the event for which is parked who waits till Stable is another.
const stableRises = 0

// numbers are those of transactions: which were given out, and which are done.
type numbers struct {
	last int   // the one that was given out last
	open []int // those that are given out and not done, rising
}

// next gives a number out.
func (l *numbers) next() int {
	l.last++
	l.open = append(l.open, l.last)
	return l.last
}

// stable is the greatest number up to which all are done.
func (l *numbers) stable() int {
	if len(l.open) == 0 {
		return l.last
	}
	return l.open[0] - 1
}

// finish makes a number done, and tells those that are parked.
func (l *numbers) finish(n int, wake func(event int) int) {
	at, _ := slices.BinarySearch(l.open, n)
	l.open = slices.Delete(l.open, at, at+1)
	wake(stableRises)
}

// await parks till all numbers up to this one are done.
func (l *numbers) await(n int, park func(event int)) {
	for l.stable() < n {
		park(stableRises)
	}
}
