package audit

import (
	"cmp"

	"custody/api"
)

// entry is what stands in the order of a result, and what it is ordered by.
type entry struct {
	place, number  int
	read, returned int // of a read 1, and when it returned: it stands behind all that have its number
}

// entries are all that stand in the order, by their places.
func entries(r api.Result) []entry {
	var l []entry
	for place, x := range r.Calls {
		switch {
		case isRead(x):
			l = append(l, entry{place: place, number: x.Number, read: 1, returned: x.Returned})
		case isNumbered(x):
			l = append(l, entry{place: place, number: x.Number})
		}
	}
	for i, x := range r.Settles {
		l = append(l, entry{place: len(r.Calls) + i, number: x.Number})
	}
	return l
}

func compare(a, b entry) int {
	return cmp.Or(cmp.Compare(a.number, b.number), cmp.Compare(a.read, b.read), cmp.Compare(a.returned, b.returned))
}
