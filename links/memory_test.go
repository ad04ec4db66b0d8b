package links_test

import (
	"slices"
	"testing"

	"custody/api"
	"custody/links"
	"custody/proof"
)

// What spare room is filled with; no test draws it.
const junk = -77

var (
	junkPair   = [2]int{junk, junk}
	junkLeg    = api.Leg{From: junk, Qty: junk}
	junkNotice = api.Notice{Ref: "junk", Priority: junk}
)

// TestPairsAreLeft is R4: pairs and priorities that are handed in, and their spare room, stay as they are, and no answer hangs on them later or on another answer.
func TestPairsAreLeft(t *testing.T) {
	d := proof.Dice(2330)
	for range 2000 {
		n := d.Below(12)
		l := proof.Room(throwEdges(&d, n, d.Below(2*n+1)), junkPair)
		priority := proof.Room(throwPriorities(&d, n), junk)
		oldPairs, oldPriority := slices.Clone(proof.Whole(l)), slices.Clone(proof.Whole(priority))
		for name, ask := range map[string]func() []int{
			"Groups": func() []int { got, _ := links.Groups(n, l); return got },
			"Order":  func() []int { got, _ := links.Order(n, l, priority); return got },
			"Ring":   func() []int { got, _ := links.Ring(n, l); return got },
		} {
			one, two := ask(), ask()
			want := slices.Clone(two)
			proof.Overwrite(one, junk)
			if !slices.Equal(two, want) || !slices.Equal(ask(), want) || !slices.Equal(proof.Whole(l), oldPairs) || !slices.Equal(proof.Whole(priority), oldPriority) {
				t.Fatalf("%s of %d, %v, %v: answers are %v, not %v, the arguments %v, %v", name, n, oldPairs, oldPriority, two, want, proof.Whole(l), proof.Whole(priority))
			}
			proof.Overwrite(l, junkPair)
			proof.Overwrite(priority, junk)
			if !slices.Equal(two, want) {
				t.Fatalf("%s of %d, %v, %v became %v, and was %v", name, n, oldPairs, oldPriority, two, want)
			}
			copy(proof.Whole(l), oldPairs)
			copy(proof.Whole(priority), oldPriority)
		}
	}
}

// roomyNotices are notices with spare room behind them, and behind the links of each.
func roomyNotices(l []api.Notice) []api.Notice {
	l = proof.Room(l, junkNotice)
	for x := range l {
		l[x] = proof.RoomyNotice(l[x])
	}
	return l
}

// wholeNotices are notices with all spare room, to be held against themselves later.
func wholeNotices(l []api.Notice) []api.Notice {
	l = slices.Clone(proof.Whole(l))
	for x := range l {
		l[x].Links = slices.Clone(proof.Whole(l[x].Links))
	}
	return l
}

func spoilNotices(l []api.Notice) {
	for _, n := range l {
		proof.SpoilNotice(n)
	}
	proof.Overwrite(l, junkNotice)
}

// TestNoticesAreLeft is R4 of Resolve.
func TestNoticesAreLeft(t *testing.T) {
	d := proof.Dice(2331)
	for range 3000 {
		l := roomyNotices(throwNotices(&d))
		old := wholeNotices(l)
		one, _ := links.Resolve(l)
		two, _ := links.Resolve(l)
		want := proof.CopyLists(two)
		if proof.OverrunLists(one, junk); !proof.SameLists(one, want) {
			t.Fatalf("Resolve(%+v): lists of %v share memory", l, want)
		}
		proof.SpoilLists(one, junk)
		if !proof.SameLists(two, want) || !slices.EqualFunc(wholeNotices(l), old, proof.SameNotice) {
			t.Fatalf("Resolve(%+v) is %v, not %v, and has left %+v", old, two, want, wholeNotices(l))
		}
		if spoilNotices(l); !proof.SameLists(two, want) {
			t.Fatalf("Resolve(%+v) became %v, and was %v", old, two, want)
		}
	}
}

// TestLegsAreLeft is R4 of Pool.
func TestLegsAreLeft(t *testing.T) {
	d := proof.Dice(2332)
	for range 5000 {
		l := throwLegs(&d)
		for at := range l {
			l[at] = proof.Room(l[at], junkLeg)
		}
		l = proof.Room(l, []api.Leg{junkLeg})
		var old [][]api.Leg
		for _, x := range proof.Whole(l) {
			old = append(old, slices.Clone(proof.Whole(x)))
		}
		one, _ := links.Pool(l)
		two, _ := links.Pool(l)
		want := slices.Clone(two)
		proof.Overwrite(one, junkLeg)
		same := func(a, b []api.Leg) bool { return slices.Equal(proof.Whole(a), b) }
		if !slices.Equal(two, want) || !slices.EqualFunc(proof.Whole(l), old, same) {
			t.Fatalf("Pool(%v) is %v, not %v, and has left %v", old, two, want, proof.Whole(l))
		}
		for _, x := range l {
			proof.Overwrite(x, junkLeg)
		}
		if proof.Overwrite(l, nil); !slices.Equal(two, want) {
			t.Fatalf("Pool(%v) became %v, and was %v", old, two, want)
		}
	}
}

// TestNoLists is R3: no list and an empty one are the same, also the links of a notice.
func TestNoLists(t *testing.T) {
	for _, room := range []int{0, 3} {
		grouped(t, 2, make([][2]int, 0, room), ints(0, 1), nil)
		ordered(t, 2, make([][2]int, 0, room), ints(0, 1), ints(1, 0), nil)
		ordered(t, 0, nil, make([]int, 0, room), nil, nil)
		rings(t, 2, make([][2]int, 0, room))
		resolved(t, make([]api.Notice, 0, room), nil, nil)
		resolved(t, []api.Notice{notice("A", 0, make([]api.Link, 0, room)...), notice("B", 1)}, [][]int{{1}, {0}}, nil)
		pooled(t, [][]api.Leg{make([]api.Leg, 0, room), moves(1)}, moves(1), nil)
	}
}
