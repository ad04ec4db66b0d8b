package prio_test

import (
	"slices"
	"testing"

	"custody/prio"
	"custody/proof"
)

// heap is a heap of things of any type, told by numbers: each thing stands for one, the zero value for 0.
type heap interface {
	push(n int)
	pop() (int, bool)
	peek() (int, bool)
	Len() int
	remove(is func(n int) bool) (int, bool)
	sorted() []int
}

// told is a heap of a type of things, and what each of them stands for.
type told[T any] struct {
	*prio.Heap[T]
	proof.Values[T]
}

func (h told[T]) push(n int) { h.Push(h.Of(n)) }

func (h told[T]) pop() (int, bool) {
	v, ok := h.Pop()
	return h.Number(v), ok
}

func (h told[T]) peek() (int, bool) {
	v, ok := h.Peek()
	return h.Number(v), ok
}

func (h told[T]) remove(is func(n int) bool) (int, bool) {
	v, ok := h.Remove(func(v T) bool { return is(h.Number(v)) })
	return h.Number(v), ok
}

func (h told[T]) sorted() []int {
	var row []int
	for _, v := range h.Sorted() {
		row = append(row, h.Number(v))
	}
	return row
}

// holding makes heaps of such things.
func holding[T any](values proof.Values[T]) func(less func(a, b int) bool) heap {
	return func(less func(a, b int) bool) heap {
		return told[T]{prio.New(func(a, b T) bool { return less(values.Number(a), values.Number(b)) }), values}
	}
}

// plain is a heap of numbers, of any size.
type plain struct{ *prio.Heap[int] }

func (h plain) push(n int)                             { h.Push(n) }
func (h plain) pop() (int, bool)                       { return h.Pop() }
func (h plain) peek() (int, bool)                      { return h.Peek() }
func (h plain) remove(is func(n int) bool) (int, bool) { return h.Remove(is) }
func (h plain) sorted() []int                          { return h.Sorted() }

func newPlain(less func(a, b int) bool) heap { return plain{prio.New(less)} }

// making makes a heap of nothing, by an order of the numbers for which its things stand.
type making = func(less func(a, b int) bool) heap

// eachType runs a test with heaps of each type of things.
func eachType(t *testing.T, test func(t *testing.T, made making)) {
	for _, x := range []struct {
		name string
		made making
	}{
		{"plain numbers", newPlain},
		{"texts", holding(proof.Texts())},
		{"numbers", holding(proof.Numbers())},
		{"short numbers", holding(proof.Shorts())},
		{"structs", holding(proof.Things())},
		{"pointers", holding(proof.Pointers())},
		{"interfaces", holding(proof.Failures())},
		{"lists", holding(proof.Lists())},
	} {
		t.Run(x.name, func(t *testing.T) { test(t, x.made) })
	}
}

// Orders of the numbers from 0 to 999.

func rising(a, b int) bool   { return a < b }
func falling(a, b int) bool  { return a > b }
func byTens(a, b int) bool   { return a/10 < b/10 }
func byDigit(a, b int) bool  { return a%10 < b%10 }
func allEqual(a, b int) bool { return false }

// fromFive is an order with a closure's own table: five first, and so on to four.
func fromFive() func(a, b int) bool {
	var rank [10]int
	for n := range rank {
		rank[(n+5)%10] = n
	}
	return func(a, b int) bool { return rank[a%10] < rank[b%10] }
}

// orders are those by which heaps are asked.
func orders() map[string]func(a, b int) bool {
	return map[string]func(a, b int) bool{
		"rising": rising, "falling": falling, "by tens": byTens, "by the last digit": byDigit, "all equal": allEqual, "from five on": fromFive(),
	}
}

// eachHeap runs a test with heaps of each type of things, by each of the orders.
func eachHeap(t *testing.T, test func(t *testing.T, made making, less func(a, b int) bool)) {
	eachType(t, func(t *testing.T, made making) {
		for name, less := range orders() {
			t.Run(name, func(t *testing.T) { test(t, made, less) })
		}
	})
}

// filled is a heap into which these were put, one behind the other.
func filled(made making, less func(a, b int) bool, l ...int) heap {
	h := made(less)
	for _, n := range l {
		h.push(n)
	}
	return h
}

// holds tells that just these are there, in this row: Len, Peek and Sorted say so, however often.
func holds(t *testing.T, h heap, l ...int) {
	t.Helper()
	var first int
	if len(l) > 0 {
		first = l[0]
	}
	for range 2 {
		if got := h.Len(); got != len(l) {
			t.Errorf("Len is %d of %v", got, l)
		}
		if n, ok := h.peek(); n != first || ok != (len(l) > 0) {
			t.Errorf("Peek is %d %v of %v", n, ok, l)
		}
		if got := h.sorted(); !slices.Equal(got, l) {
			t.Errorf("Sorted is %v, not %v", got, l)
		}
	}
}

// pops tells that these are popped, one behind the other.
func pops(t *testing.T, h heap, l ...int) {
	t.Helper()
	for _, want := range l {
		if n, ok := h.pop(); n != want || !ok {
			t.Errorf("Pop is %d %v, not %d", n, ok, want)
		}
	}
}

// empty tells that there is nothing, whatever is asked and however often.
func empty(t *testing.T, h heap) {
	t.Helper()
	for range 2 {
		holds(t, h)
		if n, ok := h.pop(); n != 0 || ok {
			t.Errorf("Pop of nothing is %d %v", n, ok)
		}
		for _, is := range []func(int) bool{all, none} {
			if n, ok := h.remove(is); n != 0 || ok {
				t.Errorf("Remove of nothing is %d %v", n, ok)
			}
		}
	}
	holds(t, h)
}

func all(int) bool  { return true }
func none(int) bool { return false }

// removes tells that Remove takes out this one.
func removes(t *testing.T, h heap, is func(n int) bool, want int) {
	t.Helper()
	if n, ok := h.remove(is); n != want || !ok {
		t.Errorf("Remove is %d %v, not %d", n, ok, want)
	}
}

// removesNone tells that Remove finds none.
func removesNone(t *testing.T, h heap, is func(n int) bool) {
	t.Helper()
	if n, ok := h.remove(is); n != 0 || ok {
		t.Errorf("Remove of none is %d %v", n, ok)
	}
}

// only says true for one number.
func only(one int) func(n int) bool { return func(n int) bool { return n == one } }
