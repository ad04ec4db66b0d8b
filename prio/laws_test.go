package prio_test

import (
	"cmp"
	"slices"
	"testing"

	"custody/prio"
	"custody/proof"
)

// throwRow throws numbers from 0 to 999, of few unlike ones or of many.
func throwRow(d *proof.Dice, longest int) []int {
	unlike := proof.Of(d, 1, 2, 12, 50, 1000)
	row := make([]int, d.Below(longest+1))
	for n := range row {
		row[n] = d.Below(unlike)
	}
	return row
}

// stable is a row sorted by the library, equals as they stand.
func stable(row []int, less func(a, b int) bool) []int {
	out := slices.Clone(row)
	slices.SortStableFunc(out, func(a, b int) int {
		switch {
		case less(a, b):
			return -1
		case less(b, a):
			return 1
		}
		return 0
	})
	return out
}

// TestStableSort is P15.9: things that are put in and then all popped are a stable sort, and so is Sorted.
func TestStableSort(t *testing.T) {
	eachHeap(t, func(t *testing.T, made making, less func(a, b int) bool) {
		d := proof.Dice(9)
		for range 12 {
			row := throwRow(&d, 60)
			want := stable(row, less)
			h := filled(made, less, row...)
			holds(t, h, want...)
			pops(t, h, want...)
			empty(t, h)
			if t.Failed() {
				t.Fatalf("so of %v", row)
			}
		}
	})
}

// TestStableSortLong is P15.9 of long rows, each thing with its place, so that equals are told apart.
func TestStableSortLong(t *testing.T) {
	d := proof.Dice(10)
	for _, unlike := range []int{1, 2, 10, 1000, 1 << 50} {
		h := prio.New(func(a, b pair) bool { return a[0] < b[0] })
		var row []pair
		for n := range 30000 {
			row = append(row, pair{d.Below(unlike), n})
			h.Push(row[n])
		}
		slices.SortStableFunc(row, func(a, b pair) int { return cmp.Compare(a[0], b[0]) })
		if !slices.Equal(h.Sorted(), row) {
			t.Fatalf("of %d unlike numbers Sorted isn't their stable sort", unlike)
		}
		for n, want := range row {
			if x, ok := h.Pop(); x != want || !ok {
				t.Fatalf("of %d unlike numbers the pair popped at %d is %v %v, not %v", unlike, n, x, ok, want)
			}
		}
	}
}

// asks asks two reckonings the same thing: what, and what each answered.
func asks(d *proof.Dice, unlike int, h, l heap) (what string, got, want []int) {
	told := func(n int, ok bool) []int {
		if !ok {
			return []int{-1, n}
		}
		return []int{n}
	}
	switch d.Below(9) {
	case 0, 1:
		return "Pop", told(h.pop()), told(l.pop())
	case 2:
		return "Peek", told(h.peek()), told(l.peek())
	case 3:
		is := proof.Of(d, all, none, only(d.Below(unlike)), func(n int) bool { return n%2 == 1 }, func(n int) bool { return n > unlike/2 })
		return "Remove", told(h.remove(is)), told(l.remove(is))
	case 4:
		return "Sorted", h.sorted(), l.sorted()
	}
	n := d.Below(unlike)
	h.push(n)
	l.push(n)
	return "Len", []int{h.Len()}, []int{l.Len()}
}

// TestRowsOfCalls is P15.2 to P15.7: rows of calls in any turns, against the second reckoning.
func TestRowsOfCalls(t *testing.T) {
	eachHeap(t, func(t *testing.T, made making, less func(a, b int) bool) {
		d := proof.Dice(11)
		for _, unlike := range []int{1, 15, 1000} {
			h, l := made(less), &list{less: less}
			for n := range 250 {
				what, got, want := asks(&d, unlike, h, l)
				if !slices.Equal(got, want) || h.Len() != l.Len() {
					t.Fatalf("call %d of %d unlike things: %s is %v, not %v; Len is %d of %d", n, unlike, what, got, want, h.Len(), l.Len())
				}
			}
			pops(t, h, l.sorted()...)
			empty(t, h)
		}
	})
}

// TestPopIsPeek is P15.10: what Pop takes is what Peek told right ahead of it, and no other thing that is there is less.
func TestPopIsPeek(t *testing.T) {
	eachHeap(t, func(t *testing.T, made making, less func(a, b int) bool) {
		d := proof.Dice(12)
		h := made(less)
		for range 300 {
			if d.Below(5) > 1 {
				h.push(d.Below(100))
				continue
			}
			told, there := h.peek()
			took, ok := h.pop()
			if told != took || there != ok {
				t.Fatalf("Pop takes %d %v, where Peek told %d %v", took, ok, told, there)
			}
			for _, n := range h.sorted() {
				if less(n, took) {
					t.Fatalf("Pop takes %d, where %d was there", took, n)
				}
			}
		}
	})
}

// TestRemoveAnyIsPop is P15.10: with an is that says true for all, Remove takes what Pop would have taken, and leaves what it would have left.
func TestRemoveAnyIsPop(t *testing.T) {
	eachHeap(t, func(t *testing.T, made making, less func(a, b int) bool) {
		d := proof.Dice(13)
		for range 10 {
			row := throwRow(&d, 40)
			a, b := filled(made, less, row...), filled(made, less, row...)
			for range len(row) + 1 {
				popped, ok := a.pop()
				removed, there := b.remove(all)
				if popped != removed || ok != there || !slices.Equal(a.sorted(), b.sorted()) {
					t.Fatalf("Pop takes %d %v, Remove %d %v; left are %v and %v", popped, ok, removed, there, a.sorted(), b.sorted())
				}
			}
		}
	})
}

// TestHeapsInTurns is P15.11: many heaps asked in turns answer as each would alone.
func TestHeapsInTurns(t *testing.T) {
	d := proof.Dice(14)
	var heaps []heap
	var lists []*list
	for _, less := range []func(a, b int) bool{rising, rising, falling, byTens, byTens, allEqual} {
		heaps, lists = append(heaps, newPlain(less)), append(lists, &list{less: less})
	}
	for n := range 6000 {
		at := d.Below(len(heaps))
		what, got, want := asks(&d, 40, heaps[at], lists[at])
		if !slices.Equal(got, want) {
			t.Fatalf("call %d, of heap %d: %s is %v, not %v", n, at, what, got, want)
		}
	}
	for at, h := range heaps {
		holds(t, h, lists[at].sorted()...)
	}
}

// TestNoOtherThings: less and is are handed only things that are there.
func TestNoOtherThings(t *testing.T) {
	d := proof.Dice(17)
	there := map[int]int{}
	look := func(n int) {
		if there[n] == 0 {
			t.Fatalf("%d is looked at, and isn't there: %v", n, there)
		}
	}
	h := prio.New(func(a, b int) bool {
		look(a)
		look(b)
		return a < b
	})
	for range 2000 {
		var n int
		ok := false
		switch d.Below(4) {
		case 0:
			n, ok = h.Pop()
		case 1:
			least := d.Below(30)
			n, ok = h.Remove(func(n int) bool {
				look(n)
				return n >= least
			})
		default:
			n = d.Below(30)
			there[n]++
			h.Push(n)
			h.Sorted()
		}
		if ok {
			there[n]--
		}
	}
}
