package balance_test

import (
	"errors"
	"math"
	"slices"
	"strings"
	"testing"

	"custody/api"
	"custody/balance"
	"custody/proof"
)

const (
	most  = api.MaxAmount
	least = math.MinInt64
)

// pos is a position; same tells whether two are the same, once more, as Same is asked too.
var (
	pos  = proof.Position
	same = proof.SamePosition
)

// full is a position with so much free, and marks of 1 under so many names, from 1 on.
func full(avail int64, names int) api.Position {
	p := pos(avail)
	for n := range names {
		p.Marks = append(p.Marks, api.Mark{Name: n + 1, Qty: 1})
	}
	return p
}

// isNothing tells whether a position is the zero value, as it must be beside an error.
func isNothing(p api.Position) bool { return p.Avail == 0 && len(p.Marks) == 0 }

// wrongs are positions that are not right, each with its error and its place.
func wrongs() []wrong {
	past := full(0, api.MaxMarks+1)
	return []wrong{
		// each alone
		{pos(-1), api.ErrArg, -1},
		{pos(least), api.ErrArg, -1},
		{pos(-1, 7, 1), api.ErrArg, -1},
		{past, api.ErrMany, 8},
		{full(5, api.MaxMarks+2), api.ErrMany, 8},
		{full(5, 1000), api.ErrMany, 8},
		{pos(0, 0, 1), api.ErrArg, 0},
		{pos(0, -1, 1), api.ErrArg, 0},
		{pos(0, least, 1), api.ErrArg, 0},
		{pos(0, api.MaxName+1, 1), api.ErrArg, 0},
		{pos(0, math.MaxInt, 1), api.ErrArg, 0},
		{pos(0, 1, 1, api.MaxName+1, 1), api.ErrArg, 1},
		{pos(0, 1, 1, 0, 1), api.ErrArg, 1},
		{pos(0, 1, 1, -1, 1), api.ErrArg, 1},
		{pos(0, 7, 1, 7, 1), api.ErrArg, 1},
		{pos(0, 1, 1, 1, 1), api.ErrArg, 1},
		{pos(0, api.MaxName, 1, api.MaxName, 1), api.ErrArg, 1},
		{pos(0, 7, 1, 6, 1), api.ErrArg, 1},
		{pos(0, api.MaxName, 1, 1, 1), api.ErrArg, 1},
		{pos(0, 3, 1, 7, 1, 7, 1), api.ErrArg, 2},
		{pos(0, 3, 1, 7, 1, 3, 1), api.ErrArg, 2},
		{pos(0, 3, 1, 7, 1, 5, 1), api.ErrArg, 2}, // above the first, but not above the one ahead of it
		{pos(0, 7, 0), api.ErrArg, 0},
		{pos(0, 7, -1), api.ErrArg, 0},
		{pos(0, 7, least), api.ErrArg, 0},
		{pos(5, 7, 1, 8, 0), api.ErrArg, 1},
		{pos(5, 7, 1, 8, -1), api.ErrArg, 1},
		{pos(0, 1, 1, 2, 1, 3, 1, 4, 1, 5, 1, 6, 1, 7, 1, 8, 0), api.ErrArg, 7},
		{pos(0, 1, 1, 2, 1, 3, 1, 4, 1, 5, 1, 6, 1, 7, 1, 7, 1), api.ErrArg, 7},
		{pos(1, 7, most), api.ErrOver, 0},
		{pos(most, 7, 1), api.ErrOver, 0},
		{pos(most, 7, most), api.ErrOver, 0},
		{pos(0, 7, most, 8, 1), api.ErrOver, 1},
		{pos(0, 7, 1, 8, most), api.ErrOver, 1},
		{pos(most-2, 7, 1, 8, 1, 9, 1), api.ErrOver, 2},
		{pos(most-2, 7, 1, 8, 1, 9, 1, 10, 1), api.ErrOver, 2},
		{pos(1<<62, 7, 1<<61, 8, 1<<61), api.ErrOver, 1},
		{pos(most, 7, most, 8, 1, 9, 1), api.ErrOver, 0}, // all together wrap round to 0
		{pos(most, 7, most, 8, most), api.ErrOver, 0},
		{full(most-7, api.MaxMarks), api.ErrOver, 7},
		// each ahead of the next
		{withAvail(past, -1), api.ErrArg, -1},
		{pos(-1, 0, 0), api.ErrArg, -1},
		{pos(-1, 7, most, 8, most), api.ErrArg, -1},
		{pos(0, 1, 1, 2, 1, 3, 1, 4, 1, 5, 1, 6, 1, 7, 1, 8, 1, 8, 0), api.ErrMany, 8},
		{pos(0, 0, 0, 0, 0, 0, 0, 0, 0, 0, 0, 0, 0, 0, 0, 0, 0, 0, 0), api.ErrMany, 8},
		{withAvail(past, most), api.ErrMany, 8},
		{pos(0, 7, 0, 0, 1), api.ErrArg, 0},
		{pos(0, 0, 1, 7, 0), api.ErrArg, 0},
		{pos(1, 7, most, 8, 0), api.ErrArg, 1},
		{pos(1, 7, most, 7, 1), api.ErrArg, 1},
		{pos(most, 7, most, 8, most, 9, -1), api.ErrArg, 2},
		{pos(most, 7, 1, 8, 1, api.MaxName+1, 1), api.ErrArg, 2},
	}
}

// wrong is a position with what is wrong with it.
type wrong struct {
	p  api.Position
	no api.Errno
	at int
}

func withAvail(p api.Position, avail int64) api.Position {
	p.Avail = avail
	return p
}

// rights are positions that are right.
func rights() []api.Position {
	return []api.Position{
		{}, {Marks: []api.Mark{}},
		pos(0), pos(1), pos(5), pos(most), pos(most - 1),
		pos(0, 1, 1), pos(0, api.MaxName, 1), pos(2, 7, 3), pos(0, 7, most), pos(most-1, 7, 1), pos(1, 7, most-1), pos(most-3, 2, 3),
		pos(0, 1, 1, api.MaxName, 1), pos(4, 3, 1, 7, 3, 9, 2), pos(most-2, 7, 1, 8, 1), pos(1<<62, 7, 1<<61, 8, 1<<61-1),
		full(0, api.MaxMarks-1), full(0, api.MaxMarks), full(4, api.MaxMarks), full(most-8, api.MaxMarks),
	}
}

// P14.1

func TestCheckRight(t *testing.T) {
	for _, p := range rights() {
		if err := balance.Check(p); err != nil {
			t.Errorf("Check(%v) is %v", p, err)
		}
	}
}

func TestCheckWrong(t *testing.T) {
	for _, x := range wrongs() {
		if err := balance.Check(x.p); !proof.TellsAt(err, x.no, 0, x.at) {
			t.Errorf("Check(%v) is %#v; want %v at %d", x.p, err, x.no, x.at)
		}
	}
}

// TestCheckNames: at each place a mark's name is from 1 to MaxName.
func TestCheckNames(t *testing.T) {
	for _, x := range []struct {
		name int
		ok   bool
	}{{math.MinInt, false}, {-65536, false}, {-1, false}, {0, false}, {1, true}, {2, true}, {65535, true}, {65536, true}, {65537, false}, {1 << 32, false}, {1<<32 + 1, false}, {math.MaxInt, false}} {
		err := balance.Check(api.Position{Marks: []api.Mark{{Name: x.name, Qty: 1}}})
		if x.ok && err != nil || !x.ok && !proof.TellsAt(err, api.ErrArg, 0, 0) {
			t.Errorf("Check of a mark of %d is %v", x.name, err)
		}
	}
}

// TestCheckEachPlace: what is wrong with a mark is told at its place, wherever it stands.
func TestCheckEachPlace(t *testing.T) {
	for at := range api.MaxMarks {
		for _, turn := range []func(m *api.Mark){
			func(m *api.Mark) { m.Qty = 0 },
			func(m *api.Mark) { m.Qty = least },
			func(m *api.Mark) { m.Name = 0 },
			func(m *api.Mark) { m.Name = at }, // that of the mark ahead of it
			func(m *api.Mark) { m.Name = api.MaxName + 1 },
		} {
			p := full(3, api.MaxMarks)
			turn(&p.Marks[at])
			if err := balance.Check(p); !proof.TellsAt(err, api.ErrArg, 0, at) {
				t.Errorf("Check(%v) is %v; want ErrArg at %d", p, err, at)
			}
		}
		p := full(most-int64(at), api.MaxMarks)
		if err := balance.Check(p); !proof.TellsAt(err, api.ErrOver, 0, at) {
			t.Errorf("Check(%v) is %v; want ErrOver at %d", p, err, at)
		}
	}
}

// P14.2

func TestSums(t *testing.T) {
	for _, p := range rights() {
		total := p.Avail
		for _, m := range p.Marks {
			total += m.Qty
			sums(t, p, m.Name, m.Qty, p.Avail+m.Qty)
		}
		if got := balance.Total(p); got != total {
			t.Errorf("Total(%v) is %d; want %d", p, got, total)
		}
		for _, name := range []int{math.MinInt, -1, 0, 1, 2, 4, 6, 8, 10, api.MaxName - 1, api.MaxName, api.MaxName + 1, math.MaxInt} {
			if !slices.ContainsFunc(p.Marks, func(m api.Mark) bool { return m.Name == name }) {
				sums(t, p, name, 0, p.Avail)
			}
		}
	}
}

func TestSumsOfTheGreatest(t *testing.T) {
	p := pos(most-5, 3, 2, 9, 3)
	if got := balance.Total(p); got != most {
		t.Errorf("Total is %d", got)
	}
	sums(t, p, 3, 2, most-3)
	sums(t, p, 9, 3, most-2)
	sums(t, p, 0, 0, most-5)
	sums(t, pos(0, 9, most), 9, most, most)
	sums(t, pos(0, 9, most), 0, 0, 0)
}

// sums checks what is marked under a name, and what may be taken with it.
func sums(t *testing.T, p api.Position, name int, marked, cover int64) {
	t.Helper()
	if got := balance.Marked(p, name); got != marked {
		t.Errorf("Marked(%v, %d) is %d; want %d", p, name, got, marked)
	}
	if got := balance.Cover(p, name); got != cover {
		t.Errorf("Cover(%v, %d) is %d; want %d", p, name, got, cover)
	}
}

func TestSumsOfWrong(t *testing.T) {
	for _, x := range wrongs() {
		if got := balance.Total(x.p); got != 0 {
			t.Errorf("Total(%v) is %d", x.p, got)
		}
		for _, name := range []int{-1, 0, 1, 2, 3, 7, 8, 9, api.MaxName, api.MaxName + 1} {
			sums(t, x.p, name, 0, 0)
		}
	}
}

// P14.7

func TestSame(t *testing.T) {
	all := rights()[2:] // the first three are the same
	for _, x := range wrongs() {
		if !slices.ContainsFunc(all, func(p api.Position) bool { return same(p, x.p) }) {
			all = append(all, x.p)
		}
	}
	for i, a := range all {
		for j, b := range all {
			if got := balance.Same(a, b); got != (i == j) {
				t.Errorf("Same(%v, %v) is %v", a, b, got)
			}
		}
		copied := api.Position{Avail: a.Avail, Marks: proof.Room(a.Marks, api.Mark{Name: 77, Qty: 77})}
		if !balance.Same(a, copied) || !balance.Same(copied, a) {
			t.Errorf("Same(%v, a copy) is false", a)
		}
	}
}

func TestSameEachField(t *testing.T) {
	for _, of := range []func() api.Position{
		func() api.Position { return pos(5, 3, 1, 7, 2) },
		func() api.Position { return pos(-5, 7, 0, 3, -2) }, // not right
	} {
		for n, turn := range []func(p *api.Position){
			func(p *api.Position) { p.Avail++ },
			func(p *api.Position) { p.Avail = -p.Avail },
			func(p *api.Position) { p.Marks[0].Name++ },
			func(p *api.Position) { p.Marks[1].Name++ },
			func(p *api.Position) { p.Marks[0].Qty++ },
			func(p *api.Position) { p.Marks[1].Qty++ },
			func(p *api.Position) { p.Marks = p.Marks[:1] },
			func(p *api.Position) { p.Marks = p.Marks[1:] },
			func(p *api.Position) { p.Marks = nil },
			func(p *api.Position) { p.Marks = append(p.Marks, p.Marks[1]) },
			func(p *api.Position) { p.Marks = append(p.Marks, api.Mark{}) },
			func(p *api.Position) { slices.Reverse(p.Marks) },
		} {
			p := of()
			turn(&p)
			if balance.Same(p, of()) || balance.Same(of(), p) {
				t.Errorf("turn %d of %v isn't seen", n, of())
			}
			if !balance.Same(p, p) || !balance.Same(of(), of()) {
				t.Errorf("%v is not the same as itself", p)
			}
		}
	}
}

// R3: no marks and an empty list of them are the same.
func TestNoMarks(t *testing.T) {
	for _, marks := range [][]api.Mark{nil, {}, make([]api.Mark, 0, 3)} {
		p := api.Position{Avail: 5, Marks: marks}
		if balance.Check(p) != nil || balance.Total(p) != 5 || !balance.Same(p, pos(5)) || !balance.Same(pos(5), p) {
			t.Errorf("%#v is not 5 []", p)
		}
		sums(t, p, 7, 0, 5)
		for _, c := range calls() {
			got, err := c.do(p, 2, 7)
			want, no, _ := reckon(c.kind, pos(5), 2, 7)
			if !same(got, want) || !proof.Tells(err, no) {
				t.Errorf("%s of %#v is %v, %v; want %v, %v", c.kind, p, got, err, want, no)
			}
		}
	}
}

// Ways: refusals are wrapped, and say what was refused, and where, if a place is wanted.

func TestRefusalsAreWrapped(t *testing.T) {
	for _, c := range calls() {
		for _, x := range wrongs() {
			_, err := c.do(x.p, 1, 7)
			if inner := errors.Unwrap(err); !proof.TellsAt(inner, x.no, 0, x.at) {
				t.Errorf("%s of %v wraps %v", c.kind, x.p, inner)
			}
		}
		_, err := c.do(pos(0), 0, 7)
		if inner := errors.Unwrap(err); inner != api.ErrAmount {
			t.Errorf("%s of 0 wraps %v", c.kind, inner)
		}
	}
}

func TestRefusalsSayWhy(t *testing.T) {
	for _, c := range calls() {
		for _, x := range []struct {
			p     api.Position
			qty   int64
			parts []string
		}{
			{pos(-1), 1, []string{c.kind, "free", api.ErrArg.Error()}},
			{pos(0, 1, 1, 2, 0), 1, []string{c.kind, "mark at 1", api.ErrArg.Error()}},
			{full(0, 9), 1, []string{c.kind, "mark at 8", api.ErrMany.Error()}},
			{pos(1, 7, most), 1, []string{c.kind, "mark at 0", api.ErrOver.Error()}},
			{pos(1), 0, []string{c.kind, api.ErrAmount.Error()}},
		} {
			_, err := c.do(x.p, x.qty, 7)
			if err == nil || !strings.HasPrefix(err.Error(), x.parts[0]+": ") || !strings.HasSuffix(err.Error(), ": "+x.parts[len(x.parts)-1]) {
				t.Errorf("%s of %v is %v", c.kind, x.p, err)
				continue
			}
			for _, s := range x.parts {
				if !strings.Contains(err.Error(), s) {
					t.Errorf("%s of %v is %v, without %q", c.kind, x.p, err, s)
				}
			}
			if told := strings.Contains(err.Error(), " at ") || strings.Contains(err.Error(), "free"); told != (len(x.parts) == 3) {
				t.Errorf("%s of %v is %v", c.kind, x.p, err)
			}
		}
	}
}
