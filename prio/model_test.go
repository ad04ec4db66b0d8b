package prio_test

import "slices"

// list is a second reckoning of a heap: its things in the order in which they came, of which the first of the row is looked for each time.
type list struct {
	things []int
	less   func(a, b int) bool
}

func (l *list) push(n int) { l.things = append(l.things, n) }

func (l *list) pop() (int, bool) { return l.remove(all) }

func (l *list) peek() (int, bool) {
	at := l.first(all)
	if at < 0 {
		return 0, false
	}
	return l.things[at], true
}

func (l *list) Len() int { return len(l.things) }

func (l *list) remove(is func(n int) bool) (int, bool) {
	at := l.first(is)
	if at < 0 {
		return 0, false
	}
	n := l.things[at]
	l.things = slices.Delete(l.things, at, at+1)
	return n, true
}

// sorted lays each thing behind all that came ahead of it and to which it isn't less.
func (l *list) sorted() []int {
	var row []int
	for _, n := range l.things {
		at := len(row)
		for at > 0 && l.less(n, row[at-1]) {
			at--
		}
		row = slices.Insert(row, at, n)
	}
	return row
}

// first is the place of the first by the order for which is says true; -1: there is none.
func (l *list) first(is func(n int) bool) int {
	first := -1
	for at := len(l.things) - 1; at >= 0; at-- {
		if is(l.things[at]) && (first < 0 || !l.less(l.things[first], l.things[at])) {
			first = at
		}
	}
	return first
}
