package prio_test

import (
	"math"
	"slices"
	"testing"

	"custody/prio"
	"custody/proof"
)

// noOrders are functions that tell of two numbers whether one is less, and are no orders.
func noOrders() map[string]func(a, b int) bool {
	return map[string]func(a, b int) bool{
		"always":             func(a, b int) bool { return true },
		"less or the same":   func(a, b int) bool { return a <= b },
		"unlike":             func(a, b int) bool { return a != b },
		"the same":           func(a, b int) bool { return a == b },
		"a ring of three":    func(a, b int) bool { return (b-a+999)%3 == 1 },
		"a ring of all":      func(a, b int) bool { return (b-a+1000)%1000 < 500 },
		"far from each":      func(a, b int) bool { return a+20 < b },
		"by what stands in":  func(a, b int) bool { return a&b%7 < 3 },
		"even ones anyway":   func(a, b int) bool { return a%2 == 0 },
		"never ahead of odd": func(a, b int) bool { return b%2 == 0 },
		"by a mixed number":  func(a, b int) bool { return (a*7919^b*104729)>>3&1 == 0 },
	}
}

// bag is how often each number is in a heap.
type bag map[int]int

// takes tells that one of those that are there was taken out, or, if there is none, nothing.
func (b bag) takes(t *testing.T, what string, n int, ok bool, is func(int) bool) {
	t.Helper()
	there := false
	for m, count := range b {
		there = there || count > 0 && is(m)
	}
	switch {
	case ok != there:
		t.Fatalf("%s is %d %v of %v", what, n, ok, b)
	case ok && (b[n] == 0 || !is(n)):
		t.Fatalf("%s takes %d, which isn't there: %v", what, n, b)
	case !ok && n != 0:
		t.Fatalf("%s of none is %d", what, n)
	case ok:
		b[n]--
	}
}

// count is how many there are.
func (b bag) count() int {
	sum := 0
	for _, n := range b {
		sum += n
	}
	return sum
}

// TestNoOrder: whatever less says, every call ends, Pop and Remove take out one of the things that are there, and Len says how many there are.
func TestNoOrder(t *testing.T) {
	eachType(t, func(t *testing.T, made making) {
		for name, less := range noOrders() {
			d := proof.Dice(len(name))
			for range 8 {
				noOrderCalls(t, &d, made(less))
			}
			if t.Failed() {
				t.Fatalf("so where less is: %s", name)
			}
		}
	})
}

// noOrderCalls asks a heap many things, and empties it in the end.
func noOrderCalls(t *testing.T, d *proof.Dice, h heap) {
	b := bag{}
	for range 120 {
		switch d.Below(8) {
		case 0:
			n, ok := h.pop()
			b.takes(t, "Pop", n, ok, all)
		case 1:
			is := proof.Of(d, all, none, only(d.Below(40)), func(n int) bool { return n%3 == 1 })
			n, ok := h.remove(is)
			b.takes(t, "Remove", n, ok, is)
		case 2:
			h.peek()
			h.sorted()
		default:
			n := d.Below(40)
			h.push(n)
			b[n]++
		}
		if h.Len() != b.count() {
			t.Fatalf("Len is %d of %v", h.Len(), b)
		}
	}
	for range b.count() {
		n, ok := h.pop()
		b.takes(t, "Pop", n, ok, all)
	}
	empty(t, h)
}

// TestNoNumbers: among floats, less is no order where one of them isn't a number.
func TestNoNumbers(t *testing.T) {
	d := proof.Dice(4)
	for range 300 {
		h := prio.New(func(a, b float64) bool { return a < b })
		var put, popped []uint64
		for range 1 + d.Below(60) {
			x := proof.Of(&d, math.NaN(), math.Inf(1), math.Inf(-1), 0, float64(d.Below(9)))
			put = append(put, math.Float64bits(x))
			h.Push(x)
		}
		h.Sorted()
		for range put {
			x, ok := h.Pop()
			if !ok {
				t.Fatal("Pop finds none")
			}
			popped = append(popped, math.Float64bits(x))
		}
		slices.Sort(put)
		slices.Sort(popped)
		if !slices.Equal(put, popped) || h.Len() != 0 {
			t.Fatalf("put were %x, popped %x", put, popped)
		}
	}
}

// TestNoOrderLong: long rows end too.
func TestNoOrderLong(t *testing.T) {
	for name, less := range noOrders() {
		h := prio.New(less)
		for n := range 20000 {
			h.Push(n % 1000)
		}
		if got := len(h.Sorted()); got != 20000 {
			t.Errorf("%s: Sorted has %d", name, got)
		}
		for n := range 20000 {
			if _, ok := h.Pop(); !ok || h.Len() != 19999-n {
				t.Fatalf("%s: Pop is %v, Len %d behind %d", name, ok, h.Len(), n)
			}
		}
	}
}
