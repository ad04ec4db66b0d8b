package proof_test

import (
	"errors"
	"slices"
	"testing"

	"custody/api"
	"custody/proof"
)

func TestTells(t *testing.T) {
	place := api.Fault{No: api.ErrForm, Line: 2, At: 3}
	for _, x := range []struct {
		err  error
		no   api.Errno
		want bool
	}{
		{nil, api.OK, true},
		{nil, api.ErrForm, false},
		{api.ErrForm, api.OK, false},
		{api.ErrForm, api.ErrForm, true},
		{api.ErrForm, api.ErrText, false},
		{errors.New("form"), api.ErrForm, false},
		{errors.Join(api.ErrForm), api.ErrForm, true},
		{errors.Join(api.ErrForm, api.ErrText), api.ErrForm, false},
		{place, api.ErrForm, false},
		{errors.Join(api.ErrForm, place), api.ErrForm, false},
	} {
		if got := proof.Tells(x.err, x.no); got != x.want {
			t.Errorf("Tells(%v, %v) is %v", x.err, x.no, got)
		}
	}
}

func TestTellsAt(t *testing.T) {
	place := api.Fault{No: api.ErrForm, Line: 2, At: 3}
	for _, x := range []struct {
		err      error
		no       api.Errno
		line, at int
		want     bool
	}{
		{place, api.ErrForm, 2, 3, true},
		{errors.Join(place), api.ErrForm, 2, 3, true},
		{place, api.ErrText, 2, 3, false},
		{place, api.ErrForm, 1, 3, false},
		{place, api.ErrForm, 2, 2, false},
		{errors.Join(place, api.ErrText), api.ErrForm, 2, 3, false},
		{api.ErrForm, api.ErrForm, 0, 0, false},
		{nil, api.OK, 0, 0, false},
		{nil, api.ErrForm, 0, 0, false},
	} {
		if got := proof.TellsAt(x.err, x.no, x.line, x.at); got != x.want {
			t.Errorf("TellsAt(%v, %v, %d, %d) is %v", x.err, x.no, x.line, x.at, got)
		}
	}
}

func TestDice(t *testing.T) {
	a, b := proof.Dice(1), proof.Dice(1)
	seen := make([]bool, 10)
	for range 1000 {
		if a.Next() != b.Next() {
			t.Fatal("two dice of one number differ")
		}
		seen[a.Below(10)] = true
		b.Next()
	}
	for n, ok := range seen {
		if !ok {
			t.Errorf("%d was never thrown", n)
		}
	}
	if s := a.Text(50, "xy"); len(s) != 50 || s == a.Text(50, "xy") {
		t.Errorf("a text is %q", s)
	}
	if got := proof.Of(&a, 7, 8); got != 7 && got != 8 {
		t.Errorf("of 7 and 8 it is %d", got)
	}
}

// Items

func some() []api.Item {
	return []api.Item{{Tag: "20C", Qual: "SEME", Text: "A"}, {Name: "A", Items: []api.Item{{Tag: "23G"}, {Name: "B"}}}}
}

func TestSameItems(t *testing.T) {
	if !proof.SameItems(some(), some()) || !proof.SameItems(nil, []api.Item{}) || proof.SameItems(some(), nil) || proof.SameItems(some(), some()[:1]) {
		t.Errorf("lists are taken for the same that are not, or the other way round")
	}
	for _, turn := range []func(x *api.Item){
		func(x *api.Item) { x.Tag += "x" },
		func(x *api.Item) { x.Qual += "x" },
		func(x *api.Item) { x.Text += "x" },
		func(x *api.Item) { x.Name += "x" },
		func(x *api.Item) { x.Items = append(x.Items, api.Item{}) },
	} {
		for at := range 3 {
			l := some()
			turn([]*api.Item{&l[0], &l[1], &l[1].Items[1]}[at])
			if proof.SameItems(l, some()) {
				t.Errorf("%q is taken for %q", l, some())
			}
		}
	}
}

func TestRoomyItems(t *testing.T) {
	for _, touch := range []func(l []api.Item){
		func(l []api.Item) { _ = append(l, api.Item{}) },
		func(l []api.Item) { _ = append(l[1].Items, api.Item{}) },
		func(l []api.Item) { l[1].Items = append(l[1].Items[:1:1], l[1].Items[1:]...) },
	} {
		l := proof.Roomy(some())
		if !proof.SameItems(l, some()) || !proof.Untouched(l) {
			t.Fatalf("Roomy is %q", l)
		}
		touch(l)
		if !proof.SameItems(l, some()) || proof.Untouched(l) {
			t.Errorf("what was touched is not told of %q", l)
		}
	}
}

func TestSpoiltItems(t *testing.T) {
	l := proof.Roomy(some())
	l[0].Items = l[1].Items[:1] // two lists that share memory
	proof.Overrun(l)
	if l[1].Items[1].Name == "B" {
		t.Errorf("Overrun leaves %q", l)
	}
	l = some()
	in := l[1].Items
	proof.Spoil(l)
	for _, x := range append(l, in...) {
		if x.Tag != "junk" {
			t.Errorf("Spoil leaves %q", x)
		}
	}
}

// Lists

func TestRoom(t *testing.T) {
	l := []int{1, 2}
	got := proof.Room(l, 9)
	all := proof.Whole(got)
	if !slices.Equal(got, l) || len(all) < 5 || !slices.Equal(all[:5], []int{1, 2, 9, 9, 9}) {
		t.Errorf("Room is %v, with its spare room %v", got, all)
	}
	if got[0] = 7; l[0] != 1 {
		t.Error("Room is no copy")
	}
	if got := proof.Room(nil, "x"); len(got) != 0 || proof.Whole(got)[2] != "x" {
		t.Errorf("Room of none is %q", proof.Whole(got))
	}
}

func TestOverwrite(t *testing.T) {
	l := []int{1, 2, 3, 4, 5}
	proof.Overwrite(l[1:2:4], 9)
	if !slices.Equal(l, []int{1, 9, 9, 9, 5}) {
		t.Errorf("Overwrite leaves %v", l)
	}
	proof.Overwrite(nil, 9)
}

func TestShuffle(t *testing.T) {
	d := proof.Dice(5)
	seen := map[[3]int]int{}
	for range 1000 {
		l := []int{1, 2, 3}
		proof.Shuffle(&d, l)
		seen[[3]int(l)]++
		if slices.Sort(l); !slices.Equal(l, []int{1, 2, 3}) {
			t.Fatalf("Shuffle leaves %v", l)
		}
	}
	if len(seen) != 6 {
		t.Errorf("of six orders there were %v", seen)
	}
	proof.Shuffle(&d, []int(nil))
}

func TestSameLists(t *testing.T) {
	of := func() [][]int { return [][]int{{1, 2}, nil, {3}} }
	if !proof.SameLists(of(), of()) || !proof.SameLists(nil, [][]int{}) || !proof.SameLists(of(), [][]int{{1, 2}, {}, {3}}) {
		t.Error("the same are not the same")
	}
	for at, l := range [][][]int{nil, {{1, 2}, nil}, {{1, 2}, {3}}, {{2, 1}, nil, {3}}, {{1, 2}, nil, {3, 3}}, {{1, 2}, {3}, nil}} {
		if proof.SameLists(l, of()) || proof.SameLists(of(), l) {
			t.Errorf("list %d is taken for the same", at)
		}
	}
}

func TestListsWithRoom(t *testing.T) {
	row := []int{1, 2, 3, 4}
	l := append(make([][]int, 0, 4), row[:1:2], row[2:3])
	copied := proof.CopyLists(l)
	proof.OverrunLists(l, 9)
	if all := proof.Whole(l); !proof.SameLists(l, [][]int{{1}, {3}}) || !slices.Equal(row, []int{1, 9, 3, 9}) || !slices.Equal(all[2], []int{9}) || !slices.Equal(all[3], []int{9}) {
		t.Errorf("OverrunLists leaves %v, and %v", all, row)
	}
	proof.SpoilLists(l, 8)
	if all := proof.Whole(l); !proof.SameLists(all, [][]int{{8}, {8}, {8}, {8}}) || !slices.Equal(row, []int{8, 8, 8, 8}) {
		t.Errorf("SpoilLists leaves %v, and %v", all, row)
	}
	if !proof.SameLists(copied, [][]int{{1}, {3}}) {
		t.Errorf("the copy became %v", copied)
	}
	shared := [][]int{row[:2], row[2:]}
	if proof.OverrunLists(shared, 7); shared[1][0] != 7 {
		t.Error("two lists share memory, and it isn't seen")
	}
}

// Traces

func TestPicks(t *testing.T) {
	d := proof.Dice(3)
	if got := d.Picks(0); len(got) != 0 {
		t.Errorf("no picks are %v", got)
	}
	got := d.Picks(300)
	below := slices.ContainsFunc(got, func(p int) bool { return p < 0 })
	above := slices.ContainsFunc(got, func(p int) bool { return p > 6 })
	if len(got) != 300 || !below || !above || slices.Equal(got, d.Picks(300)) {
		t.Errorf("picks are %v", got)
	}
}

func TestNoted(t *testing.T) {
	if got := proof.Noted([3]int{1, 2, 3}, [3]int{4, 5, 6}); !slices.Equal(got, []api.Event{{Task: 1, Step: 2, Value: 3}, {Task: 4, Step: 5, Value: 6}}) {
		t.Errorf("%v", got)
	}
}

func aTrace() api.Trace {
	return api.Trace{Events: []api.Event{{Task: 1, Step: 2, Value: 3}}, Ended: []bool{true, false}, Waiting: []int{-1, 4}, Parked: []int{-1, -1}, Turns: 2, Cut: true}
}

func TestSameTrace(t *testing.T) {
	if !proof.SameTrace(aTrace(), aTrace()) || !proof.SameTrace(api.Trace{}, api.Trace{Events: []api.Event{}, Ended: []bool{}, Waiting: []int{}, Parked: []int{}}) {
		t.Error("the same are not the same")
	}
	for n, change := range []func(x *api.Trace){
		func(x *api.Trace) { x.Events[0].Value++ },
		func(x *api.Trace) { x.Events = nil },
		func(x *api.Trace) { x.Ended[0] = false },
		func(x *api.Trace) { x.Waiting[0] = 0 },
		func(x *api.Trace) { x.Parked[1] = 0 },
		func(x *api.Trace) { x.Turns++ },
		func(x *api.Trace) { x.Cut = false },
	} {
		x := aTrace()
		change(&x)
		if proof.SameTrace(x, aTrace()) {
			t.Errorf("change %d isn't seen", n)
		}
	}
}

func TestSpoilTrace(t *testing.T) {
	x := aTrace()
	both := []int{-1, 4, -1, -1}
	x.Waiting, x.Parked = both[:2], both[2:]
	proof.OverrunTrace(x)
	if proof.SameTrace(x, aTrace()) {
		t.Error("two lists share memory, and it isn't seen")
	}
	x = aTrace()
	proof.OverrunTrace(x)
	if !proof.SameTrace(x, aTrace()) {
		t.Error("lists that share nothing are changed")
	}
	proof.SpoilTrace(x)
	if x.Events[0] == aTrace().Events[0] || x.Ended[0] || !x.Ended[1] || x.Waiting[1] == 4 || x.Parked[0] == -1 {
		t.Errorf("it isn't spoiled: %v", x)
	}
}

// standFor tells that each number has a value of its own, the zero value 0, and that other values have none.
func standFor[V any](t *testing.T, x proof.Values[V], other V) {
	t.Helper()
	var zero V
	if got := x.Number(zero); got != 0 {
		t.Errorf("%T: the zero value stands for %d", zero, got)
	}
	for _, n := range []int{0, 1, 2, 500, 999} {
		if got := x.Number(x.Of(n)); got != n {
			t.Errorf("%T: the value of %d stands for %d", zero, n, got)
		}
	}
	if got := x.Number(other); got != proof.Wrong {
		t.Errorf("%T: another value stands for %d", zero, got)
	}
}

func TestValues(t *testing.T) {
	standFor(t, proof.Texts(), "v1000")
	standFor(t, proof.Numbers(), 1000)
	standFor(t, proof.Shorts(), 1000)
	standFor(t, proof.Things(), proof.Thing{Text: "v1", Pair: [2]int{1, 1}})
	standFor(t, proof.Pointers(), &proof.Thing{})
	standFor(t, proof.Failures(), errors.New("v1"))
	standFor(t, proof.Lists(), []int{1})
}
