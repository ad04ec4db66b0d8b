package queue

import (
	"runtime"
	"slices"
	"testing"
	"weak"
)

// rowOf is a row of entries to which nothing else leads, and which of them are still kept.
func rowOf(count int) (row, func() []int) {
	var r row
	var known []weak.Pointer[entry]
	for n := range count {
		e := &entry{id: n, came: n}
		r, known = r.with(e), append(known, weak.Make(e))
	}
	return r, func() []int {
		runtime.GC()
		var l []int
		for n, p := range known {
			if p.Value() != nil {
				l = append(l, n)
			}
		}
		return l
	}
}

func each(*entry) bool { return true }

// TestRowKeepsNoOther: an entry that has left a row is kept by it no longer, the first, the last or one between.
func TestRowKeepsNoOther(t *testing.T) {
	for _, leave := range [][]int{{0}, {9}, {4}, {0, 0, 0}, {9, 8, 7}, {5, 0, 7, 3, 0}, {0, 0, 0, 0, 0, 0, 0, 0, 0, 0}} {
		r, kept := rowOf(10)
		for _, at := range leave {
			r = r.without(r[at])
		}
		if got := kept(); !slices.Equal(got, r.ids(each)) || len(got) != 10-len(leave) {
			t.Errorf("%v left: %v are kept, where there are %v", leave, got, r.ids(each))
		}
		runtime.KeepAlive(r)
	}
}

// TestRowInItsOrder: entries come and leave in any order; one that isn't there leaves nothing changed.
func TestRowInItsOrder(t *testing.T) {
	var l []*entry
	for n := range 7 {
		l = append(l, &entry{id: -n, came: n})
	}
	r := row(nil).with(l[4]).with(l[1]).with(l[6]).with(l[3])
	if got := r.without(l[0]).without(l[2]).without(l[5]).ids(each); !slices.Equal(got, []int{-1, -3, -4, -6}) {
		t.Errorf("the ids are %v", got)
	}
	r = r.without(l[1]).with(l[0]).with(l[5]).without(l[4]).with(l[2])
	if got := r.ids(each); !slices.Equal(got, []int{0, -2, -3, -5, -6}) {
		t.Errorf("the ids are %v", got)
	}
	if got := row(nil).without(l[0]); len(got) != 0 {
		t.Errorf("a row of none has %d", len(got))
	}
}
