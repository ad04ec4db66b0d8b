package chain_test

import (
	"runtime"
	"testing"
	"weak"

	"custody/chain"
)

// big is a value of which it can be seen whether it is still kept.
type big struct{ room [64]int }

// putBig puts a version to which nothing leads but the chain, if it takes it.
func putBig(c *chain.Chain[*big], n int) weak.Pointer[big] {
	v := &big{}
	c.Put(n, v)
	return weak.Make(v)
}

// TestForgottenIsNotKept: a value that is forgotten or refused is kept no more, and each other one is.
func TestForgottenIsNotKept(t *testing.T) {
	c := chain.New[*big]()
	var values []weak.Pointer[big]
	for n := range 100 {
		values = append(values, putBig(c, n))
	}
	refused := putBig(c, 50)
	kept := func() (first, count int) {
		runtime.GC()
		first = -1
		for n, v := range values {
			if v.Value() == nil {
				continue
			}
			if count++; first < 0 {
				first = n
			}
		}
		return first, count
	}
	if first, count := kept(); first != 0 || count != 100 || refused.Value() != nil {
		t.Errorf("%d values are kept, from %d on; of the refused one %v", count, first, refused.Value())
	}
	for _, n := range []int{1, 2, 10, 11, 49, 50, 51, 52, 80, 99} {
		c.Prune(n)
		if first, count := kept(); first != n || count != 100-n {
			t.Errorf("behind Prune(%d) %d values are kept, from %d on", n, count, first)
		}
	}
	runtime.KeepAlive(c)
}

// TestRoomIsGivenUp: a chain that was long, and is short, needs no more room than a short one, however it was pruned.
func TestRoomIsGivenUp(t *testing.T) {
	const long = 1 << 20
	for _, step := range []int{1, 1000, long} {
		c := chain.New[int]()
		old := inUse()
		for n := range long {
			c.Put(n, n)
		}
		for n := 0; n < long; n += step {
			c.Prune(n + step - 1)
		}
		if more := inUse() - old; more > long || c.Len() != 1 {
			t.Errorf("%d at a time: %d versions need %d bytes", step, c.Len(), more)
		}
		if v, n, ok := c.Last(); v != long-1 || n != long-1 || !ok {
			t.Errorf("%d at a time: Last is %d %d %v", step, v, n, ok)
		}
	}
}

// inUse is how many bytes are kept.
func inUse() int {
	runtime.GC()
	var m runtime.MemStats
	runtime.ReadMemStats(&m)
	return int(m.HeapAlloc)
}

// TestLongChain: at a chain that is put to and pruned again and again, At and walks stay right.
func TestLongChain(t *testing.T) {
	const width = 1000
	c := chain.New[int]()
	for n := range 100 * width {
		c.Put(2*n, n)
		c.Prune(2*(n-width) + 1)
		if n%997 != 0 {
			continue
		}
		first := max(n-width, 0)
		if c.Len() != n-first+1 {
			t.Fatalf("behind %d Len is %d", n, c.Len())
		}
		next := first
		for m, v := range c.All() {
			if m != 2*next || v != next {
				t.Fatalf("behind %d a walk gives %d %d, not %d", n, m, v, next)
			}
			next++
		}
		if v, ok := c.At(2*first - 1); v != 0 || ok || next != n+1 {
			t.Fatalf("behind %d the walk ends at %d, and ahead of the first At is %d %v", n, next, v, ok)
		}
		if v, ok := c.At(2*n - 1); n > 0 && (v != n-1 || !ok) {
			t.Fatalf("behind %d At is %d %v", n, v, ok)
		}
	}
}
