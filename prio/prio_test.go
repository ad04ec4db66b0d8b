package prio_test

import (
	"slices"
	"testing"

	"custody/prio"
)

// TestNothing is P15.1, and P15.3 to P15.7 of nothing: of a new heap, and of one that was emptied again.
func TestNothing(t *testing.T) {
	eachHeap(t, func(t *testing.T, made making, less func(a, b int) bool) {
		h := made(less)
		empty(t, h)
		for _, count := range []int{1, 2, 3, 70} {
			for n := range count {
				h.push(n + 1)
			}
			for range count {
				h.pop()
			}
			empty(t, h)
			for n := range count {
				h.push(n + 1)
			}
			for n := range count {
				removes(t, h, only(n+1), n+1)
			}
			empty(t, h)
		}
	})
}

// TestOne is P15.2 to P15.7 of one thing, the zero value too.
func TestOne(t *testing.T) {
	eachHeap(t, func(t *testing.T, made making, less func(a, b int) bool) {
		h := made(less)
		for _, n := range []int{5, 0, 999} {
			h.push(n)
			holds(t, h, n)
			pops(t, h, n)
			empty(t, h)
			h.push(n)
			removesNone(t, h, none)
			removesNone(t, h, only(7))
			holds(t, h, n)
			removes(t, h, only(n), n)
			empty(t, h)
			h.push(n)
			removes(t, h, all, n)
			empty(t, h)
		}
	})
}

// TestMany is P15.2 to P15.5 and P15.7 of many: all that was put in, in its row.
func TestMany(t *testing.T) {
	for _, x := range []struct {
		less      func(a, b int) bool
		put, want []int
	}{
		{rising, []int{5, 2, 9, 0, 7}, []int{0, 2, 5, 7, 9}},
		{falling, []int{5, 2, 9, 0, 7}, []int{9, 7, 5, 2, 0}},
		{allEqual, []int{5, 2, 9, 0, 7}, []int{5, 2, 9, 0, 7}},
		{byTens, []int{35, 12, 31, 19, 0, 11, 39, 10}, []int{0, 12, 19, 11, 10, 35, 31, 39}},
		{byDigit, []int{35, 12, 31, 19, 0, 11, 39, 10}, []int{0, 10, 31, 11, 12, 35, 19, 39}},
		{fromFive(), []int{35, 12, 31, 19, 0, 11, 39, 10}, []int{35, 19, 39, 0, 10, 31, 11, 12}},
		{rising, []int{3, 3, 1, 3, 1}, []int{1, 1, 3, 3, 3}},
		{rising, []int{1, 2, 3, 4, 5, 6, 7, 8, 9}, []int{1, 2, 3, 4, 5, 6, 7, 8, 9}},
		{rising, []int{9, 8, 7, 6, 5, 4, 3, 2, 1}, []int{1, 2, 3, 4, 5, 6, 7, 8, 9}},
	} {
		eachType(t, func(t *testing.T, made making) {
			h := filled(made, x.less, x.put...)
			for n, want := range x.want {
				holds(t, h, x.want[n:]...)
				pops(t, h, want)
			}
			empty(t, h)
		})
	}
}

// TestPushBetween is P15.2: what is put in stands where it belongs in the row, ahead of all, behind all and between; of equals it is the last.
func TestPushBetween(t *testing.T) {
	eachType(t, func(t *testing.T, made making) {
		h := made(byTens)
		for _, x := range []struct {
			n    int
			want []int
		}{
			{50, []int{50}},
			{31, []int{31, 50}},
			{72, []int{31, 50, 72}},
			{53, []int{31, 50, 53, 72}},
			{34, []int{31, 34, 50, 53, 72}},
			{75, []int{31, 34, 50, 53, 72, 75}},
			{6, []int{6, 31, 34, 50, 53, 72, 75}},
			{47, []int{6, 31, 34, 47, 50, 53, 72, 75}},
			{31, []int{6, 31, 34, 31, 47, 50, 53, 72, 75}},
		} {
			h.push(x.n)
			holds(t, h, x.want...)
		}
		pops(t, h, 6, 31, 34, 31, 47, 50, 53, 72, 75)
		empty(t, h)
	})
}

// TestEqualInTurns is P15.3 and P15.6: of equals the one that was put in first comes first, also where others were taken out and put in between.
func TestEqualInTurns(t *testing.T) {
	eachType(t, func(t *testing.T, made making) {
		h := filled(made, byTens, 11, 12, 13, 14)
		pops(t, h, 11)
		h.push(11)
		holds(t, h, 12, 13, 14, 11)
		pops(t, h, 12, 13)
		h.push(12)
		h.push(5)
		h.push(25)
		h.push(13)
		holds(t, h, 5, 14, 11, 12, 13, 25)
		removes(t, h, only(11), 11)
		h.push(11)
		h.push(6)
		h.push(26)
		holds(t, h, 5, 6, 14, 12, 13, 11, 25, 26)
		pops(t, h, 5, 6, 14)
		h.push(14)
		removes(t, h, func(n int) bool { return n > 20 }, 25)
		h.push(25)
		pops(t, h, 12, 13, 11, 14, 26, 25)
		empty(t, h)
		h.push(12)
		h.push(11)
		pops(t, h, 12, 11)
		empty(t, h)
	})
}

// TestRowOfTurns: with one thing taken out and one put in, in turns, those that are equal go round.
func TestRowOfTurns(t *testing.T) {
	const width = 9
	h := newPlain(allEqual)
	for n := range width {
		h.push(n)
	}
	for n := range 500 {
		pops(t, h, n)
		h.push(n + width)
	}
	holds(t, h, 500, 501, 502, 503, 504, 505, 506, 507, 508)
}

// TestRemove is P15.6: the first of the row, the last, one in the middle, one of several, none.
func TestRemove(t *testing.T) {
	put := []int{35, 12, 31, 19, 0, 11, 39, 10}
	odd := func(n int) bool { return n%2 == 1 }
	for _, x := range []struct {
		name string
		is   func(n int) bool
		want int
		left []int
	}{
		{"the first", only(0), 0, []int{12, 19, 11, 10, 35, 31, 39}},
		{"the last", only(39), 39, []int{0, 12, 19, 11, 10, 35, 31}},
		{"the middle", only(11), 11, []int{0, 12, 19, 10, 35, 31, 39}},
		{"the first of equals", only(12), 12, []int{0, 19, 11, 10, 35, 31, 39}},
		{"the last of equals", only(10), 10, []int{0, 12, 19, 11, 35, 31, 39}},
		{"one of several", odd, 19, []int{0, 12, 11, 10, 35, 31, 39}},
		{"one of several equals", func(n int) bool { return n > 30 && n < 40 }, 35, []int{0, 12, 19, 11, 10, 31, 39}},
		{"any of two", func(n int) bool { return n == 39 || n == 31 }, 31, []int{0, 12, 19, 11, 10, 35, 39}},
		{"any", all, 0, []int{12, 19, 11, 10, 35, 31, 39}},
	} {
		t.Run(x.name, func(t *testing.T) {
			eachType(t, func(t *testing.T, made making) {
				h := filled(made, byTens, put...)
				removes(t, h, x.is, x.want)
				holds(t, h, x.left...)
				removesNone(t, h, only(x.want))
				removesNone(t, h, none)
				holds(t, h, x.left...)
				pops(t, h, x.left...)
				empty(t, h)
			})
		})
	}
}

// TestRemoveSame is P15.6 where several are just alike: one at a time is taken.
func TestRemoveSame(t *testing.T) {
	eachType(t, func(t *testing.T, made making) {
		h := filled(made, byTens, 25, 11, 25, 12, 11, 25)
		removes(t, h, only(25), 25)
		holds(t, h, 11, 12, 11, 25, 25)
		removes(t, h, only(11), 11)
		holds(t, h, 12, 11, 25, 25)
		removes(t, h, only(25), 25)
		removes(t, h, only(25), 25)
		removesNone(t, h, only(25))
		holds(t, h, 12, 11)
	})
}

// TestRemoveAsksEach is P15.6: what is says of each thing counts, wherever it stands.
func TestRemoveAsksEach(t *testing.T) {
	h := filled(newPlain, byDigit, 35, 12, 31, 19, 0, 11, 39, 10)
	asked := map[int]bool{}
	removesNone(t, h, func(n int) bool {
		asked[n] = true
		return false
	})
	if len(asked) != 8 {
		t.Errorf("asked were %v", asked)
	}
}

// TestRemoveInAllRows is P15.6 at all short rows of few keys, with each choice for which is says true: what is taken, and the row of the others.
func TestRemoveInAllRows(t *testing.T) {
	const keys, longest = 3, 6
	rows := 1
	for length := range longest + 1 {
		for row := range rows {
			for chosen := range 1 << length {
				if !removesOfRow(t, row, length, keys, chosen) {
					t.Fatalf("so at the row %d of %d things, where those of %b are chosen", row, length, chosen)
				}
			}
		}
		rows *= keys
	}
}

// removesOfRow takes out one of a row of things, whose keys are the digits of a number, and holds what is answered and what is left against the second reckoning.
func removesOfRow(t *testing.T, row, length, keys, chosen int) bool {
	h, l := newPlain(byTens), &list{less: byTens}
	for n := range length {
		h.push(row%keys*10 + n)
		l.push(row%keys*10 + n)
		row /= keys
	}
	is := func(n int) bool { return chosen>>(n%10)&1 == 1 }
	got, gotOk := h.remove(is)
	want, wantOk := l.remove(is)
	if got != want || gotOk != wantOk {
		t.Errorf("Remove is %d %v, not %d %v", got, gotOk, want, wantOk)
	}
	holds(t, h, l.sorted()...)
	pops(t, h, l.sorted()...)
	return !t.Failed()
}

// TestPopInAllRows is P15.3 at all orders in which seven unlike things can be put in, and popped with one more put in behind each.
func TestPopInAllRows(t *testing.T) {
	eachRow([]int{0, 1, 2, 3, 4, 5, 6}, func(row []int) {
		h := filled(newPlain, rising, row...)
		pops(t, h, 0, 1, 2, 3, 4, 5, 6)
		if h.Len() != 0 {
			t.Errorf("%d are left of %v", h.Len(), row)
		}
		h = newPlain(byTens)
		for _, n := range row {
			h.push(10 * n)
		}
		for n := range 3 {
			pops(t, h, 10*n)
			h.push(45 + n)
		}
		pops(t, h, 30, 40, 45, 46, 47, 50, 60)
		if t.Failed() {
			t.Fatalf("so of %v", row)
		}
	})
}

// eachRow goes through all orders of a list.
func eachRow(l []int, visit func([]int)) {
	var lay func(at int)
	lay = func(at int) {
		if at == len(l) {
			visit(slices.Clone(l))
			return
		}
		for n := at; n < len(l); n++ {
			l[at], l[n] = l[n], l[at]
			lay(at + 1)
			l[at], l[n] = l[n], l[at]
		}
	}
	lay(0)
}

// TestTwoHeaps is P15.11: two heaps asked in turns, of one order and of two.
func TestTwoHeaps(t *testing.T) {
	eachType(t, func(t *testing.T, made making) {
		for _, less := range []func(a, b int) bool{byTens, byDigit} {
			a, b := made(byTens), made(less)
			a.push(21)
			empty(t, b)
			b.push(33)
			a.push(12)
			b.push(34)
			holds(t, a, 12, 21)
			holds(t, b, 33, 34)
			pops(t, b, 33)
			holds(t, a, 12, 21)
			a.push(34)
			removes(t, b, all, 34)
			empty(t, b)
			holds(t, a, 12, 21, 34)
			b.push(21)
			removesNone(t, b, only(34))
			removes(t, a, only(34), 34)
			pops(t, a, 12, 21)
			empty(t, a)
			holds(t, b, 21)
		}
	})
}

// urgent is a thing whose order looks at two of its parts.
type urgent struct {
	class int
	until float64
	name  string
}

// TestStructs: things are answered whole, not only what the order looks at.
func TestStructs(t *testing.T) {
	h := prio.New(func(a, b urgent) bool {
		return a.class < b.class || a.class == b.class && a.until < b.until
	})
	a, b, c, d := urgent{2, 0.5, "a"}, urgent{1, 7, "b"}, urgent{1, 3, "c"}, urgent{1, 7, "d"}
	for _, x := range []urgent{a, b, c, d} {
		h.Push(x)
	}
	if got := h.Sorted(); !slices.Equal(got, []urgent{c, b, d, a}) {
		t.Errorf("Sorted is %v", got)
	}
	if x, ok := h.Remove(func(x urgent) bool { return x.name == "b" }); x != b || !ok {
		t.Errorf("Remove is %v %v", x, ok)
	}
	for _, want := range []urgent{c, d, a} {
		if x, ok := h.Pop(); x != want || !ok {
			t.Errorf("Pop is %v %v, not %v", x, ok, want)
		}
	}
	if x, ok := h.Pop(); x != (urgent{}) || ok {
		t.Errorf("Pop of nothing is %v %v", x, ok)
	}
}

// TestNoRoomAtAll: things that are all the same, and take no room.
func TestNoRoomAtAll(t *testing.T) {
	h := prio.New(func(a, b struct{}) bool { return false })
	for range 100 {
		h.Push(struct{}{})
	}
	if h.Len() != 100 || len(h.Sorted()) != 100 {
		t.Errorf("Len is %d, of Sorted %d", h.Len(), len(h.Sorted()))
	}
	for n := range 100 {
		if _, ok := h.Pop(); !ok || h.Len() != 99-n {
			t.Fatalf("Pop is %v, Len %d", ok, h.Len())
		}
	}
	if _, ok := h.Pop(); ok {
		t.Error("Pop of nothing is one")
	}
}

// TestFunctions: a heap of closures, which can't be compared at all.
func TestFunctions(t *testing.T) {
	h := prio.New(func(a, b func() int) bool { return a() < b() })
	for _, n := range []int{4, 1, 3, 2} {
		h.Push(func() int { return n })
	}
	if f, ok := h.Remove(func(f func() int) bool { return f() > 2 }); !ok || f() != 3 {
		t.Errorf("Remove is %v", ok)
	}
	for _, want := range []int{1, 2, 4} {
		if f, ok := h.Pop(); !ok || f() != want {
			t.Errorf("Pop is %v, not %d", ok, want)
		}
	}
	if f, ok := h.Peek(); f != nil || ok {
		t.Errorf("Peek of nothing is %v", ok)
	}
}
