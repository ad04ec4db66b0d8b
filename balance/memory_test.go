package balance_test

import (
	"slices"
	"testing"

	"custody/api"
	"custody/balance"
	"custody/proof"
)

// junk is what spare room is filled with.
func junk() api.Mark { return api.Mark{Name: 77, Qty: 77} }

// roomy is a copy of a position whose marks have spare room with junk in it.
func roomy(p api.Position) api.Position {
	return api.Position{Avail: p.Avail, Marks: proof.Room(p.Marks, junk())}
}

// spoil overwrites the marks of a position, and their spare room.
func spoil(p api.Position) {
	all := proof.Whole(p.Marks)
	for i := range all {
		all[i] = api.Mark{Name: -5, Qty: -5}
	}
}

// somePositions are those of the tests, right and not.
func somePositions() []api.Position {
	l := rights()
	for _, x := range wrongs() {
		l = append(l, x.p)
	}
	return l
}

// R4: what is handed in is not changed, its spare room included.
func TestArgumentsStay(t *testing.T) {
	for _, of := range somePositions() {
		p := roomy(of)
		all := slices.Clone(proof.Whole(p.Marks))
		for _, name := range []int{-1, 0, 1, 5, 7, 8, 9, api.MaxName, api.MaxName + 1} {
			balance.Check(p)
			balance.Total(p)
			balance.Marked(p, name)
			balance.Cover(p, name)
			balance.Same(p, p)
			for _, qty := range []int64{0, 1, 2, 3, most} {
				for _, c := range calls() {
					c.do(p, qty, name)
					if !slices.Equal(proof.Whole(p.Marks), all) || !same(p, of) {
						t.Fatalf("%s(.., %d, %d) changed %v to %v", c.kind, qty, name, of, p)
					}
				}
			}
		}
	}
}

// R4: an answer is new memory, its spare room included: it shares none with the argument nor with another answer.
func TestAnswersAreNew(t *testing.T) {
	answered := 0
	for _, of := range somePositions() {
		for _, name := range []int{0, 1, 5, 7, 8, 9, api.MaxName} {
			for _, qty := range []int64{1, 2, 3} {
				for _, c := range calls() {
					want, no, _ := reckon(c.kind, of, qty, name)
					if no != api.OK {
						continue
					}
					answered++
					p := roomy(of)
					all := slices.Clone(proof.Whole(p.Marks))
					one, _ := c.do(p, qty, name)
					two, _ := c.do(p, qty, name)
					spoil(one)
					if !slices.Equal(proof.Whole(p.Marks), all) || !same(two, want) {
						t.Fatalf("the answer of %s(%v, %d, %d) is shared", c.kind, of, qty, name)
					}
					spoil(p)
					if !same(two, want) {
						t.Fatalf("the answer of %s(%v, %d, %d) shares its argument", c.kind, of, qty, name)
					}
				}
			}
		}
	}
	if answered < 200 {
		t.Errorf("only %d were answered", answered)
	}
}

// Answers of which one was made from the other share nothing either, also where nothing of the marks was turned.
func TestRowsAreNew(t *testing.T) {
	a := pos(5, 3, 1, 7, 3)
	b, err := balance.Credit(a, 5)
	if err != nil {
		t.Fatal(err)
	}
	c, err := balance.Debit(b, 5, 0)
	if err != nil {
		t.Fatal(err)
	}
	spoil(b)
	if want := pos(5, 3, 1, 7, 3); !same(a, want) || !same(c, want) {
		t.Errorf("they became %v and %v", a, c)
	}
}

// R5: what is answered hangs on the arguments alone: not on the order of calls, not on how much room a list has.
func TestSameEachTime(t *testing.T) {
	for _, of := range somePositions() {
		for _, c := range calls() {
			one, first := c.do(of, 2, 7)
			c.do(pos(9, 7, 2), 1, 7)
			two, second := c.do(roomy(of), 2, 7)
			if !same(one, two) || (first == nil) != (second == nil) || first != nil && first.Error() != second.Error() {
				t.Errorf("%s of %v is %v, %v, then %v, %v", c.kind, of, one, first, two, second)
			}
		}
	}
}
