package prio_test

import (
	"runtime"
	"slices"
	"testing"
	"weak"

	"custody/prio"
	"custody/proof"
)

// TestSortedIsNew is P15.11: whoever writes into a list that Sorted answered, its spare room too, changes neither the heap nor another answer.
func TestSortedIsNew(t *testing.T) {
	for _, count := range []int{0, 1, 2, 5, 64, 100} {
		h := prio.New(byTens)
		var want []int
		for n := range count {
			h.Push(n)
			want = append(want, n)
		}
		first, second := h.Sorted(), h.Sorted()
		for at := range proof.Whole(first) {
			proof.Whole(first)[at] = -7
		}
		if !slices.Equal(second, want) || !slices.Equal(h.Sorted(), want) || h.Len() != count {
			t.Fatalf("of %d: another answer is %v, Sorted %v", count, second, h.Sorted())
		}
		for at := range proof.Whole(second) {
			proof.Whole(second)[at] = -8
		}
		third := h.Sorted()
		h.Push(-5)
		h.Pop()
		h.Remove(func(n int) bool { return n == count/2 })
		for h.Len() > 0 {
			h.Pop()
		}
		if !slices.Equal(third, want) {
			t.Fatalf("an answer of %d became %v, when the heap was emptied", count, third)
		}
	}
}

// TestSortedBetween: answers of Sorted stay as they are, whatever is done with the heap meanwhile.
func TestSortedBetween(t *testing.T) {
	d := proof.Dice(3)
	h, l := newPlain(byTens), &list{less: byTens}
	var answers, wants [][]int
	for range 400 {
		n := d.Below(1000)
		h.push(n)
		l.push(n)
		if d.Below(3) == 0 {
			h.pop()
			l.pop()
		}
		answers, wants = append(answers, h.sorted()), append(wants, l.sorted())
	}
	for at := range answers {
		if !slices.Equal(answers[at], wants[at]) {
			t.Fatalf("answer %d is %v, not %v", at, answers[at], wants[at])
		}
	}
}

// TestPlayArguments: the steps that are handed in are not changed, nor is their spare room, and answers share nothing with them or each other.
func TestPlayArguments(t *testing.T) {
	d := proof.Dice(8)
	for range 200 {
		steps := proof.Room(throwSteps(&d, d.Below(40), 4, 0, 1, 1, 2, 3, 4, 5), step{-9, -9, -9})
		before := slices.Clone(proof.Whole(steps))
		first := prio.Play(steps, false)
		second := prio.Play(steps, false)
		want := slices.Clone(first)
		if !slices.Equal(proof.Whole(steps), before) {
			t.Fatalf("steps %v became %v", before, proof.Whole(steps))
		}
		for at := range proof.Whole(first) {
			proof.Whole(first)[at] = pair{-7, -7}
		}
		for at := range steps {
			steps[at] = step{1, -8, -8}
		}
		if !slices.Equal(second, want) {
			t.Fatalf("an answer %v became %v", want, second)
		}
	}
}

// TestThingsAreHandedOn: a heap of lists hands on the lists themselves, as Go assigns them.
func TestThingsAreHandedOn(t *testing.T) {
	h := prio.New(func(a, b []int) bool { return len(a) < len(b) })
	long, short := []int{1, 2}, []int{3}
	h.Push(long)
	h.Push(short)
	row := h.Sorted()
	top, _ := h.Peek()
	if &row[0][0] != &short[0] || &row[1][0] != &long[0] || &top[0] != &short[0] {
		t.Errorf("Sorted is %v, Peek %v", row, top)
	}
	if x, _ := h.Pop(); &x[0] != &short[0] {
		t.Errorf("Pop is %v", x)
	}
}

// big is a thing of which it can be seen whether it is still kept.
type big struct {
	order int
	room  [64]int
}

func pushBig(h *prio.Heap[*big], order int) weak.Pointer[big] {
	x := &big{order: order}
	h.Push(x)
	return weak.Make(x)
}

// kept is how many of these are still kept.
func kept(l []weak.Pointer[big]) int {
	runtime.GC()
	count := 0
	for _, x := range l {
		if x.Value() != nil {
			count++
		}
	}
	return count
}

// TestTakenOutIsNotKept: a thing that was taken out is kept no more, and each other one is.
func TestTakenOutIsNotKept(t *testing.T) {
	h := prio.New(func(a, b *big) bool { return a.order < b.order })
	var things []weak.Pointer[big]
	for n := range 100 {
		things = append(things, pushBig(h, n*37%10))
	}
	for n := range 100 {
		if got := kept(things); got != 100-n {
			t.Fatalf("%d are kept, where %d were taken out", got, n)
		}
		switch n % 3 {
		case 0:
			h.Pop()
		case 1:
			h.Remove(func(x *big) bool { return x.order >= n%10 })
			for h.Len() > 99-n {
				h.Pop()
			}
		default:
			h.Sorted()
			h.Peek()
			h.Remove(func(x *big) bool { return true })
		}
	}
	runtime.KeepAlive(h)
}

// inUse is how many bytes are kept.
func inUse() int {
	runtime.GC()
	var m runtime.MemStats
	runtime.ReadMemStats(&m)
	return int(m.HeapAlloc)
}

// TestRoomIsGivenUp: a heap that was great, and is small or empty, needs no more room than a small one.
func TestRoomIsGivenUp(t *testing.T) {
	const many = 1 << 20
	for _, left := range []int{0, 1, 10} {
		h := prio.New(rising)
		old := inUse()
		for n := range many {
			h.Push(many - n)
		}
		for h.Len() > left {
			h.Pop()
		}
		if more := inUse() - old; more > many/4 {
			t.Errorf("%d things need %d bytes", h.Len(), more)
		}
		for n := range left {
			if x, ok := h.Pop(); x != many-left+n+1 || !ok {
				t.Errorf("Pop is %d %v", x, ok)
			}
		}
		runtime.KeepAlive(h)
	}
}
