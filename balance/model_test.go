package balance_test

import (
	"maps"
	"math/big"
	"slices"
	"testing"

	"custody/api"
	"custody/balance"
	"custody/proof"
)

// call is one of the calls that turn a position.
type call struct {
	kind string
	do   func(p api.Position, qty int64, name int) (api.Position, error)
}

// calls are the four of them; a credit has no name.
func calls() []call {
	return []call{
		{"credit", func(p api.Position, qty int64, _ int) (api.Position, error) { return balance.Credit(p, qty) }},
		{"debit", balance.Debit},
		{"mark", balance.Mark},
		{"unmark", balance.Unmark},
	}
}

// book is a right position once more: marks by their names, numbers without bounds.
type book struct {
	free  *big.Int
	marks map[int]*big.Int
}

func bookOf(p api.Position) book {
	b := book{big.NewInt(p.Avail), map[int]*big.Int{}}
	for _, m := range p.Marks {
		b.marks[m.Name] = big.NewInt(m.Qty)
	}
	return b
}

// position is what a book tells: marks by rising names, none of 0.
func (b book) position() api.Position {
	p := api.Position{Avail: b.free.Int64()}
	for _, name := range slices.Sorted(maps.Keys(b.marks)) {
		if b.marks[name].Sign() != 0 {
			p.Marks = append(p.Marks, api.Mark{Name: name, Qty: b.marks[name].Int64()})
		}
	}
	return p
}

func (b book) total() *big.Int {
	sum := new(big.Int).Set(b.free)
	for _, qty := range b.marks {
		sum.Add(sum, qty)
	}
	return sum
}

// mark is the number that stands under a name, to be changed.
func (b book) mark(name int) *big.Int {
	if b.marks[name] == nil {
		b.marks[name] = new(big.Int)
	}
	return b.marks[name]
}

func isAmount(n *big.Int) bool { return n.Sign() >= 0 && n.Cmp(big.NewInt(most)) <= 0 }

// judge is what is wrong with a position, by the chapter's table, row by row, and where.
func judge(p api.Position) (api.Errno, int) {
	if p.Avail < 0 {
		return api.ErrArg, -1
	}
	if len(p.Marks) > 8 {
		return api.ErrMany, 8
	}
	for i, m := range p.Marks {
		rises := i == 0 || m.Name > p.Marks[i-1].Name
		if m.Name < 1 || m.Name > 65536 || m.Qty < 1 || !rises {
			return api.ErrArg, i
		}
	}
	for i := range p.Marks {
		if up := (api.Position{Avail: p.Avail, Marks: p.Marks[:i+1]}); !isAmount(bookOf(up).total()) {
			return api.ErrOver, i
		}
	}
	return api.OK, 0
}

// noPlace is where an error stands that tells no place.
const noPlace = -9

// reckon is what a call answers, by the chapter's words: the position, or the error and its place.
func reckon(kind string, p api.Position, qty int64, name int) (api.Position, api.Errno, int) {
	if no, at := judge(p); no != api.OK {
		return api.Position{}, no, at
	}
	b, n := bookOf(p), big.NewInt(qty)
	if no := b.refusal(kind, n, name); no != api.OK {
		return api.Position{}, no, noPlace
	}
	switch kind {
	case "credit":
		b.free.Add(b.free, n)
	case "debit":
		for rest := qty; rest > 0; {
			part := b.free
			if name != 0 && b.mark(name).Sign() > 0 {
				part = b.mark(name)
			}
			take := min(rest, part.Int64())
			part.Sub(part, big.NewInt(take))
			rest -= take
		}
	case "mark":
		b.free.Sub(b.free, n)
		b.mark(name).Add(b.mark(name), n)
	case "unmark":
		b.mark(name).Sub(b.mark(name), n)
		b.free.Add(b.free, n)
	}
	return b.position(), api.OK, noPlace
}

// refusal is the first error of a call over a right position, with the chapter's words in their order.
func (b book) refusal(kind string, qty *big.Int, name int) api.Errno {
	marked, there := b.marks[name]
	if !there {
		marked = new(big.Int)
	}
	inBounds := name >= 1 && name <= 65536
	type ask struct {
		no  api.Errno
		yes bool
	}
	asks := map[string][]ask{
		"credit": {{api.ErrOver, !isAmount(new(big.Int).Add(b.total(), qty))}},
		"debit":  {{api.ErrMark, name != 0 && !inBounds}, {api.ErrCover, new(big.Int).Add(b.free, marked).Cmp(qty) < 0}},
		"mark":   {{api.ErrMark, !inBounds}, {api.ErrCover, b.free.Cmp(qty) < 0}, {api.ErrMany, len(b.marks) == 8 && !there}},
		"unmark": {{api.ErrMark, !inBounds || !there}, {api.ErrCover, marked.Cmp(qty) < 0}},
	}
	for _, a := range append([]ask{{api.ErrAmount, qty.Sign() < 1}}, asks[kind]...) {
		if a.yes {
			return a.no
		}
	}
	return api.OK
}

// holds checks a call against the reckoning, and tells whether it was answered.
func holds(t *testing.T, c call, p api.Position, qty int64, name int) (api.Position, bool) {
	t.Helper()
	got, err := c.do(p, qty, name)
	want, no, at := reckon(c.kind, p, qty, name)
	told := proof.Tells(err, no)
	if at != noPlace {
		told = proof.TellsAt(err, no, 0, at)
	}
	if !told || !same(got, want) {
		t.Fatalf("%s(%v, %d, %d) is %v, %v; want %v, %v at %d", c.kind, p, qty, name, got, err, want, no, at)
	}
	return got, err == nil
}

// asked checks what is told of a position against the reckoning.
func asked(t *testing.T, p api.Position, name int) {
	t.Helper()
	no, at := judge(p)
	err := balance.Check(p)
	if no != api.OK {
		if !proof.TellsAt(err, no, 0, at) || balance.Total(p) != 0 {
			t.Fatalf("Check(%v) is %v, Total %d; want %v at %d", p, err, balance.Total(p), no, at)
		}
		sums(t, p, name, 0, 0)
		return
	}
	b := bookOf(p)
	if err != nil || balance.Total(p) != b.total().Int64() {
		t.Fatalf("Check(%v) is %v, Total %d", p, err, balance.Total(p))
	}
	marked := new(big.Int)
	if b.marks[name] != nil {
		marked = b.marks[name]
	}
	sums(t, p, name, marked.Int64(), new(big.Int).Add(b.free, marked).Int64())
}

// TestAllSmall holds every call over every position of up to two marks, of few names and quantities, right or not, against the reckoning.
func TestAllSmall(t *testing.T) {
	var marks []api.Mark
	for _, name := range []int{0, 1, 2, api.MaxName, api.MaxName + 1} {
		for _, qty := range []int64{0, 1, 2, most - 2} {
			marks = append(marks, api.Mark{Name: name, Qty: qty})
		}
	}
	lists := [][]api.Mark{nil}
	for _, a := range marks {
		lists = append(lists, []api.Mark{a})
		for _, b := range marks {
			lists = append(lists, []api.Mark{a, b})
		}
	}
	for _, avail := range []int64{-1, 0, 1, 2, most} {
		for _, l := range lists {
			p := api.Position{Avail: avail, Marks: l}
			for _, name := range []int{-1, 0, 1, 2, 3, api.MaxName, api.MaxName + 1} {
				asked(t, p, name)
				for _, qty := range []int64{-1, 0, 1, 2, 3, most} {
					for _, c := range calls() {
						holds(t, c, p, qty, name)
					}
				}
			}
		}
	}
}
