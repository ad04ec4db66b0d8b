package queue_test

import (
	"slices"
	"testing"

	"custody/api"
	"custody/proof"
	"custody/queue"
)

// agree does calls with a queue and with the second reckoning, and holds all against each other: each answer, what is seen behind it, and at the end what is bared.
func agree(t *testing.T, room int, calls []call) {
	t.Helper()
	q, b := queue.New(room), newBook(room)
	for n, c := range calls {
		got, want := c.ask(q), c.ask(b)
		if !slices.Equal(got, want) {
			t.Fatalf("room %d: %sthe last is %v, not %v", room, told(calls[:n+1]), got, want)
		}
		if got, want := seen(q), seen(b); !proof.SameLists(got, want) {
			t.Fatalf("room %d: %sseen is %v, not %v", room, told(calls[:n+1]), got, want)
		}
	}
	if got, want := bared(q), bared(b); !proof.SameLists(got, want) {
		t.Fatalf("room %d: %sbared is %v, not %v", room, told(calls), got, want)
	}
}

// agreeAtEnd holds the last answer and what is bared then against the second reckoning: all that was ahead of it is a shorter row of calls.
func agreeAtEnd(t *testing.T, room int, calls []call) {
	t.Helper()
	q, b := queue.New(room), newBook(room)
	for n, c := range calls {
		got, want := c.ask(q), c.ask(b)
		if n == len(calls)-1 && !slices.Equal(got, want) {
			t.Fatalf("room %d: %sthe last is %v, not %v", room, told(calls), got, want)
		}
	}
	if got, want := bared(q), bared(b); !proof.SameLists(got, want) {
		t.Fatalf("room %d: %sbared is %v, not %v", room, told(calls), got, want)
	}
}

// eachRow goes through all rows of so many of these calls, behind those of the start.
func eachRow(start, of []call, count int, visit func(calls []call)) {
	visit(start)
	if count == 0 {
		return
	}
	for _, c := range of {
		eachRow(append(slices.Clone(start), c), of, count-1, visit)
	}
}

// TestAllShortRows is P19.2 to P19.7: all rows of four calls of two ids and two keys, with room for one and for two.
func TestAllShortRows(t *testing.T) {
	of := []call{take(), touch(keyA), touch(keyB), touch(keyB, keyA)}
	for _, id := range []int{0, 7} {
		of = append(of, put(id), put(id, keyA), put(id, keyB), put(id, keyA, keyB), back(id), remove(id))
	}
	for _, room := range []int{1, 2} {
		eachRow(nil, of, 4, func(calls []call) { agreeAtEnd(t, room, calls) })
	}
}

// TestAllRowsOfTwo is P19.2 to P19.7: all rows of five calls, behind two entries that share one of their keys.
func TestAllRowsOfTwo(t *testing.T) {
	start := []call{put(7, keyA, keyB), put(0, keyB)}
	of := []call{take(), touch(keyA), touch(keyB), put(7, keyA), put(0, keyB, keyA), back(7), back(0), remove(7), remove(0)}
	for _, room := range []int{2, 3} {
		eachRow(start, of, 5, func(calls []call) { agreeAtEnd(t, room, calls) })
	}
}

// throwKeys throws keys of which there are so many, some of them twice.
func throwKeys(d *proof.Dice, unlike, longest int) []api.Key {
	var l []api.Key
	for range d.Below(longest + 1) {
		n := d.Below(unlike)
		l = append(l, api.Key{Account: n%3 - 1, Asset: n / 3})
	}
	return l
}

// throwCall throws a call, of one of so many ids and of so many keys.
func throwCall(d *proof.Dice, ids, unlike int) call {
	id := d.Below(ids)
	switch d.Below(10) {
	case 0, 1, 2:
		return put(id, throwKeys(d, unlike, 4)...)
	case 3, 4:
		return touch(throwKeys(d, unlike, 3)...)
	case 5, 6:
		return take()
	case 7, 8:
		return back(id)
	}
	return remove(id)
}

func throwCalls(d *proof.Dice, count int) []call {
	ids, unlike := proof.Of(d, 2, 4, 12, 40), proof.Of(d, 1, 2, 6, 30)
	var l []call
	for range count {
		l = append(l, throwCall(d, ids, unlike))
	}
	return l
}

// TestRowsOfCalls is P19.1 to P19.7: rows of calls in any turns, against the second reckoning.
func TestRowsOfCalls(t *testing.T) {
	d := proof.Dice(1)
	for range 600 {
		agree(t, proof.Of(&d, -1, 0, 1, 3, 10, 1000), throwCalls(&d, 120))
	}
}

// TestLongRows is the same of few rows that are long.
func TestLongRows(t *testing.T) {
	d := proof.Dice(2)
	for range 6 {
		agree(t, proof.Of(&d, 5, 30, 1000), throwCalls(&d, 5000))
	}
}

// thrown is a queue behind thrown calls; with the same dice it is the same one.
func thrown(d proof.Dice, room int) *queue.Queue {
	q := queue.New(room)
	for _, c := range throwCalls(&d, 150) {
		c.ask(q)
	}
	return q
}

// TestNoChangeIsLost is P19.8: whatever was done ahead of it, an entry one of whose keys is touched is ready, or taken and ready when it is given back, till Take gives it out again.
func TestNoChangeIsLost(t *testing.T) {
	own := api.Key{Account: 77, Asset: 78}
	const id = 1000
	d := proof.Dice(3)
	for seed := range 400 {
		q := thrown(proof.Dice(100+seed), 50)
		if err := q.Put(id, []api.Key{keyA, own, keyB}); err != nil {
			t.Fatal(err)
		}
		owed, taken := false, false // owed: a change that nobody has looked at
		for range 200 {
			switch d.Below(6) {
			case 0:
				q.Touch([]api.Key{own})
				owed = true
			case 1:
				got, ok := q.Take()
				if ok && got == id {
					if !owed || taken {
						t.Fatal("Take gives out what isn't ready")
					}
					owed, taken = false, true
				}
			case 2:
				if got, want := q.Back(id), taken && owed; got != want {
					t.Fatalf("Back is %v, not %v", got, want)
				}
				taken = false
			default:
				c := throwCall(&d, 12, 6)
				owed = owed || touches(c, keyA, keyB)
				if c.what != "Take" {
					c.ask(q)
				}
			}
			if idle := slices.Contains(q.Idle(), id); idle != (!owed && !taken) {
				t.Fatalf("idle is %v, where a change is owed %v and it is taken %v", idle, owed, taken)
			}
		}
	}
}

// touches tells whether a call is a Touch of one of these keys: by what it does to a queue in which one waits for them.
func touches(c call, l ...api.Key) bool {
	q := queue.New(1)
	q.Put(-5, l)
	c.ask(q)
	return q.Len() == 1 && len(q.Idle()) == 0
}

// TestFirstCome is P19.9: Take again and again gives all that are ready, each once, in the order of Items; then none, and again none.
func TestFirstCome(t *testing.T) {
	for seed := range 1000 {
		q := thrown(proof.Dice(seed), 1000)
		for _, id := range q.Items() {
			q.Back(id) // none is taken then: who isn't idle is ready
		}
		idle := q.Idle()
		want := slices.DeleteFunc(q.Items(), func(id int) bool { return slices.Contains(idle, id) })
		var got []int
		for range want {
			id, _ := q.Take()
			got = append(got, id)
		}
		if !slices.Equal(got, want) {
			t.Fatalf("taken are %v, not %v", got, want)
		}
		for range 2 {
			if id, ok := q.Take(); id != 0 || ok {
				t.Fatalf("behind all that are ready Take is %d %v", id, ok)
			}
		}
		if !slices.Equal(q.Idle(), idle) {
			t.Fatalf("Take made of the idle ones %v %v", idle, q.Idle())
		}
	}
}

// turned is a list with the same keys, some of them more often, in another order.
func turned(d *proof.Dice, l []api.Key) []api.Key {
	out := slices.Clone(l)
	for range d.Below(4) {
		if len(l) > 0 {
			out = append(out, proof.Of(d, l...))
		}
	}
	for at := range out {
		other := d.Below(at + 1)
		out[at], out[other] = out[other], out[at]
	}
	return out
}

// TestKeysInAnyOrder is P19.10: the order of keys, and keys that stand twice, don't matter, to Put nor to Touch.
func TestKeysInAnyOrder(t *testing.T) {
	d := proof.Dice(4)
	for range 500 {
		a, b := queue.New(9), queue.New(9)
		for range 80 {
			l, id := throwKeys(&d, 12, 6), d.Below(12)
			m := turned(&d, l)
			var first, second call
			switch d.Below(3) {
			case 0:
				first, second = put(id, l...), put(id, m...)
			case 1:
				first, second = touch(l...), touch(m...)
			default:
				first = proof.Of(&d, take(), back(id), remove(id))
				second = first
			}
			if got, want := second.ask(b), first.ask(a); !slices.Equal(got, want) || !proof.SameLists(seen(a), seen(b)) {
				t.Fatalf("%s is %v, %s is %v; seen are %v and %v", first.what, want, second.what, got, seen(a), seen(b))
			}
		}
		if x, y := bared(a), bared(b); !proof.SameLists(x, y) {
			t.Fatalf("bared are %v and %v", x, y)
		}
	}
}

// TestTouchOfTwoLists is P19.10: Touch of two lists, one behind the other, leaves what Touch of both together leaves, in either order; and as many became ready.
func TestTouchOfTwoLists(t *testing.T) {
	d := proof.Dice(5)
	for seed := range 1500 {
		l, m := throwKeys(&d, 8, 4), throwKeys(&d, 8, 4)
		start := proof.Dice(seed)
		a, b, c := thrown(start, 100), thrown(start, 100), thrown(start, 100)
		apart := a.Touch(l) + a.Touch(m)
		together := b.Touch(slices.Concat(l, m))
		turned := c.Touch(m) + c.Touch(l)
		if apart != together || apart != turned {
			t.Fatalf("of %v and %v %d became ready, together %d, turned about %d", l, m, apart, together, turned)
		}
		x, y, z := bared(a), bared(b), bared(c)
		if !proof.SameLists(x, y) || !proof.SameLists(x, z) {
			t.Fatalf("%v and %v left %v, together %v, turned about %v", l, m, x, y, z)
		}
	}
}

// TestItemsAreWhatWasPut is P19.11: Items are what was put with nil, in that order, less what was removed; never more than there is room for.
func TestItemsAreWhatWasPut(t *testing.T) {
	d := proof.Dice(6)
	for range 300 {
		room := proof.Of(&d, -3, 0, 1, 2, 5, 20)
		q := queue.New(room)
		var want []int
		for range 200 {
			id := d.Below(30) - 10
			switch d.Below(3) {
			case 0:
				if q.Put(id, throwKeys(&d, 5, 3)) == nil {
					want = append(want, id)
				}
			case 1:
				if q.Remove(id) {
					want = slices.DeleteFunc(want, func(x int) bool { return x == id })
				}
			default:
				q.Touch(throwKeys(&d, 5, 3))
				q.Take()
				q.Back(id)
			}
			if got := q.Items(); !slices.Equal(got, want) || len(got) > max(room, 0) || q.Len() != len(got) {
				t.Fatalf("room %d: Items are %v, not %v; Len is %d", room, got, want, q.Len())
			}
		}
	}
}

// TestQueuesInTurns is P19.1: many queues asked in turns answer as each would alone.
func TestQueuesInTurns(t *testing.T) {
	d := proof.Dice(7)
	var queues []*queue.Queue
	var books []*book
	for _, room := range []int{0, 1, 3, 3, 10, 50} {
		queues, books = append(queues, queue.New(room)), append(books, newBook(room))
	}
	for range 6000 {
		at := d.Below(len(queues))
		c := throwCall(&d, 12, 8)
		if got, want := c.ask(queues[at]), c.ask(books[at]); !slices.Equal(got, want) {
			t.Fatalf("%s of queue %d is %v, not %v", c.what, at, got, want)
		}
	}
	for at := range queues {
		if got, want := bared(queues[at]), bared(books[at]); !proof.SameLists(got, want) {
			t.Fatalf("bared is %v, not %v", got, want)
		}
	}
}

// TestSameAgain is R5: the same calls are answered the same, each time.
func TestSameAgain(t *testing.T) {
	for seed := range 100 {
		want := bared(thrown(proof.Dice(seed), 20))
		for range 3 {
			if got := bared(thrown(proof.Dice(seed), 20)); !proof.SameLists(got, want) {
				t.Fatalf("the same calls make %v, and %v", want, got)
			}
		}
	}
}
