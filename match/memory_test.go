package match_test

import (
	"runtime"
	"slices"
	"testing"
	"unsafe"

	"custody/api"
	"custody/match"
	"custody/proof"
)

// lender hands out texts in memory that it overwrites when it takes them back.
type lender struct{ lent [][]byte }

func (l *lender) lend(s string) string {
	b := append([]byte(nil), s...)
	l.lent = append(l.lent, b)
	return unsafe.String(unsafe.SliceData(b), len(b))
}

func (l *lender) takeBack() {
	for _, b := range l.lent {
		for i := range b {
			b[i] = '#'
		}
	}
	l.lent = nil
}

// side is a side of lent texts, with spare room behind its links.
func (l *lender) side(s api.Side) api.Side {
	n := &s.Notice
	for _, text := range []*string{&n.Ref, &n.Prev, &n.Account, &n.Agent, &n.Other, &n.Currency} {
		*text = l.lend(*text)
	}
	*n = proof.RoomyNotice(*n)
	for at := range n.Links {
		n.Links[at].Ref = l.lend(n.Links[at].Ref)
	}
	return s
}

// wholeSide is a side with the spare room of its links, to be held against itself later.
func wholeSide(s api.Side) api.Side {
	s.Notice.Links = slices.Clone(proof.Whole(s.Notice.Links))
	return s
}

// TestArgumentsAreNotChanged is R4: what is handed in stays as it is, its spare room too.
func TestArgumentsAreNotChanged(t *testing.T) {
	dice := proof.Dice(8)
	for range 300 {
		names := proof.Room(slices.Concat(bics, throwBics(&dice)), "junk")
		wasNames := slices.Clone(proof.Whole(names))
		b := match.New(names, 100)
		for range 10 {
			s, other := throwSide(&dice, names, 36), throwSide(&dice, names, 36)
			s.Notice, other.Notice = proof.RoomyNotice(s.Notice), proof.RoomyNotice(other.Notice)
			was, wasOther := wholeSide(s), wholeSide(other)
			match.Fit(s, other, names, 100)
			b.Add(s)
			b.Add(other)
			if !sameSide(wholeSide(s), was) || !sameSide(wholeSide(other), wasOther) || !slices.Equal(proof.Whole(names), wasNames) {
				t.Fatalf("%+v became %+v, %+v %+v, %q %q", was, s, wasOther, other, wasNames, names)
			}
		}
	}
}

// TestArgumentsAreNotKept is R4: who handed something in may write over it, its spare room and its texts, behind the call.
func TestArgumentsAreNotKept(t *testing.T) {
	dice := proof.Dice(9)
	for range 100 {
		names := slices.Concat(bics, throwBics(&dice))
		var lent lender
		given := proof.Room(names, "junk")
		for at, bic := range names {
			given[at] = lent.lend(bic)
		}
		b, p := match.New(given, 100), &paper{bics: names, tolerance: 100}
		lent.takeBack()
		for at := range proof.Whole(given) {
			proof.Whole(given)[at] = "BNPAFRPP"
		}
		for range 40 {
			s := throwSide(&dice, names, 36)
			got, want := add(lent.side(s)), add(s)
			if dice.Below(3) == 0 {
				got, want = cancel(s.Party, lent.lend(s.Notice.Ref)), cancel(s.Party, s.Notice.Ref)
			}
			if told, should := got.ask(b), want.ask(p); told != should {
				t.Fatalf("%s is %s, not %s", want.what, told, should)
			}
			lent.takeBack()
			if is, should := seen(b, len(names), len(p.rows)), seen(p, len(names), len(p.rows)); is != should {
				t.Fatalf("behind %s seen is\n%s\nnot\n%s", want.what, is, should)
			}
		}
	}
}

// TestLinksAreNotKept is R4 of one side: its links are written over.
func TestLinksAreNotKept(t *testing.T) {
	x := newTested(t)
	s := d("D1", linked)
	s.Notice = proof.RoomyNotice(s.Notice)
	x.add(0, -1, s)
	proof.SpoilNotice(s.Notice)
	x.side(0, d("D1", linked))
}

// TestAnswersAreNew is R4: who asked may write over the answers and their spare room, and they stay as they are when the book is changed.
func TestAnswersAreNew(t *testing.T) {
	x := newTested(t)
	x.add(0, -1, d("D1", linked))
	x.add(1, 0, r("R1", linked))
	x.add(2, -1, d("D2", qty(3)))
	x.add(3, -1, d("D3", linked))
	was := x.seen()
	for range 2 {
		open, alleged, pairs := x.b.Open(), x.b.Alleged(1), x.b.Pairs()
		again, still, more := x.b.Open(), x.b.Alleged(1), x.b.Pairs()
		one, _ := x.b.Side(0)
		two, _ := x.b.Side(0)
		proof.Overwrite(open, -7)
		proof.Overwrite(alleged, -7)
		proof.Overwrite(pairs, pair(-7, -7, -7))
		proof.SpoilNotice(one.Notice)
		if !slices.Equal(again, []int{2, 3}) || !slices.Equal(still, []int{2, 3}) || !slices.Equal(more, []api.Pair{pair(0, 1, 5000)}) || !sameSide(two, d("D1", linked)) {
			t.Fatalf("other answers became %v, %v, %v, %+v", again, still, more, two)
		}
		x.stays(was)
	}
	open, alleged, pairs := x.b.Open(), x.b.Alleged(1), x.b.Pairs()
	x.cancel(true, 0, "D2")
	x.cancel(false, 0, "D1")
	x.cancel(true, 1, "R1")
	x.add(4, 1, r("R2"))
	x.add(5, -1, r("R3"))
	if !slices.Equal(open, []int{2, 3}) || !slices.Equal(alleged, []int{2, 3}) || !slices.Equal(pairs, []api.Pair{pair(0, 1, 5000)}) {
		t.Errorf("answers became %v, %v, %v", open, alleged, pairs)
	}
}

// TestAnswersBetween is R4: answers stay as they are, whatever is done with the book meanwhile.
func TestAnswersBetween(t *testing.T) {
	dice := proof.Dice(10)
	b, p := match.New(bics, 100), &paper{bics: bics, tolerance: 100}
	var got, want [][]int
	var made, due [][]api.Pair
	for _, c := range throwCalls(&dice, bics, 400, 3) {
		c.ask(b)
		c.ask(p)
		got, want = append(got, b.Open(), b.Alleged(0)), append(want, p.Open(), p.Alleged(0))
		made, due = append(made, b.Pairs()), append(due, p.Pairs())
	}
	if !slices.EqualFunc(got, want, slices.Equal[[]int]) || !slices.EqualFunc(made, due, slices.Equal[[]api.Pair]) {
		t.Error("an answer has changed")
	}
}

// TestNoLinks is R3: no links and an empty list of them are the same.
func TestNoLinks(t *testing.T) {
	for _, links := range [][]api.Link{nil, {}, make([]api.Link, 0, 5)} {
		none := func(s *api.Side) { s.Notice.Links = links }
		fits(t, 5000, turned(d("D1"), none), r("R1"), bics, tolerance)
		x := newTested(t)
		s := d("D1")
		s.Notice.Links = links
		x.add(0, -1, s)
		x.side(0, d("D1"))
		x.add(1, 0, r("R1"))
	}
}

// inUse is how many bytes are kept.
func inUse() int {
	runtime.GC()
	var m runtime.MemStats
	runtime.ReadMemStats(&m)
	return int(m.HeapAlloc)
}

// TestRefusedIsNotKept: of sides that are refused, and of cancellations, nothing is kept.
func TestRefusedIsNotKept(t *testing.T) {
	x := newTested(t)
	x.add(0, -1, d("D1"))
	x.add(1, 0, r("R1"))
	old := inUse()
	for n := range 100000 {
		x.b.Add(d("D1", qty(int64(n+1))))
		x.b.Add(d("D2", qty(int64(n+1)), from(2+n)))
		x.b.Add(d("D2", qty(int64(n+1)), cancellation))
		x.b.Cancel(n, "D2")
		x.b.Cancel(0, "D1")
	}
	if more := inUse() - old; more > 1<<20 {
		t.Errorf("%d bytes are kept of what was refused", more)
	}
	runtime.KeepAlive(x.b)
}
