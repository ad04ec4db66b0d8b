package balance_test

import (
	"math/big"
	"slices"
	"testing"

	"custody/api"
	"custody/balance"
	"custody/proof"
)

// dice throw positions and what is asked of them.
type dice struct{ proof.Dice }

func newDice(seed int) *dice { return &dice{proof.Dice(seed)} }

// qty is a quantity of any size, most of them small or near the ends.
func (d *dice) qty() int64 {
	return proof.Of(&d.Dice, int64(d.Below(12)), int64(d.Below(12)), int64(d.Below(12)), most-int64(d.Below(12)), int64(d.Next()>>(1+d.Below(63))), -int64(d.Below(3)))
}

// name is a name, or none, most of them few.
func (d *dice) name() int {
	return proof.Of(&d.Dice, d.Below(12), d.Below(12), d.Below(12), api.MaxName-d.Below(3), api.MaxName+d.Below(3), -d.Below(3), 1+d.Below(api.MaxName))
}

// right is a position that is right.
func (d *dice) right() api.Position {
	var p api.Position
	left := proof.Of(&d.Dice, int64(d.Below(40)), most, most-int64(d.Below(3)), int64(d.Next()>>1))
	share := func() int64 {
		part := int64(d.Next()>>1) % (left/int64(1+d.Below(4)) + 1)
		left -= part
		return part
	}
	names := map[int]int64{}
	for range d.Below(api.MaxMarks + 1) {
		name := proof.Of(&d.Dice, 1+d.Below(11), 1+d.Below(11), 1+d.Below(api.MaxName), api.MaxName-d.Below(3))
		if qty := share(); names[name] == 0 && qty > 0 {
			names[name] = qty
		}
	}
	for name, qty := range names {
		p.Marks = append(p.Marks, api.Mark{Name: name, Qty: qty})
	}
	slices.SortFunc(p.Marks, func(a, b api.Mark) int { return a.Name - b.Name })
	part := share()
	p.Avail = proof.Of(&d.Dice, part, part+left)
	return p
}

// any is a position, right or not: a right one of which something may be turned.
func (d *dice) any() api.Position {
	p := d.right()
	for range d.Below(3) {
		switch at := d.Below(len(p.Marks) + 1); {
		case d.Below(3) == 0:
			p.Marks = slices.Insert(p.Marks, at, api.Mark{Name: d.name(), Qty: d.qty()})
		case at == len(p.Marks):
			p.Avail = d.qty()
		case d.Below(2) == 0:
			p.Marks[at].Name = d.name()
		default:
			p.Marks[at].Qty = d.qty()
		}
	}
	return p
}

// near is a quantity at, or one past, what counts in a position.
func (d *dice) near(p api.Position, name int) int64 {
	edge := proof.Of(&d.Dice, p.Avail, balance.Cover(p, name), balance.Marked(p, name), most-balance.Total(p), balance.Total(p))
	switch d.Below(4) {
	case 0:
		return edge
	case 1:
		return min(edge, most-1) + 1
	case 2:
		return edge - 1
	}
	return d.qty()
}

// known is a name that may well be marked in a position.
func (d *dice) known(p api.Position) int {
	if len(p.Marks) == 0 || d.Below(3) == 0 {
		return d.name()
	}
	return p.Marks[d.Below(len(p.Marks))].Name
}

// TestManyPositions holds calls over many positions, right and not, against the reckoning.
func TestManyPositions(t *testing.T) {
	d := newDice(1)
	right, answered := 0, 0
	for range 60000 {
		p := d.any()
		name := d.known(p)
		asked(t, p, name)
		if balance.Check(p) == nil {
			right++
		}
		for _, c := range calls() {
			if _, ok := holds(t, c, p, d.near(p, name), name); ok {
				answered++
			}
		}
	}
	if right < 20000 || right > 50000 || answered < 20000 {
		t.Errorf("%d were right, and %d answered", right, answered)
	}
}

// P14.8: what is answered is right, and its total is greater or less by what was credited or debited.
func TestTotals(t *testing.T) {
	d := newDice(2)
	seen := map[string]int{}
	for range 60000 {
		p := d.right()
		name := d.known(p)
		qty := d.near(p, name)
		for _, c := range calls() {
			q, err := c.do(p, qty, name)
			if err != nil {
				continue
			}
			seen[c.kind]++
			want := balance.Total(p) + map[string]int64{"credit": qty, "debit": -qty}[c.kind]
			if err := balance.Check(q); err != nil || balance.Total(q) != want {
				t.Fatalf("%s(%v, %d, %d) is %v: %v, with the total %d; want %d", c.kind, p, qty, name, q, err, balance.Total(q), want)
			}
		}
	}
	for _, c := range calls() {
		if seen[c.kind] < 2000 {
			t.Errorf("only %d of %s were answered", seen[c.kind], c.kind)
		}
	}
}

// P14.9: Unmark undoes Mark, Debit undoes Credit.
func TestUndone(t *testing.T) {
	d := newDice(3)
	marked, credited := 0, 0
	for range 60000 {
		p := d.right()
		name := d.known(p)
		qty := d.near(p, name)
		if q, err := balance.Mark(p, qty, name); err == nil {
			marked++
			if back, err := balance.Unmark(q, qty, name); err != nil || !balance.Same(back, p) {
				t.Fatalf("Mark(%v, %d, %d) is %v, and Unmark of that %v, %v", p, qty, name, q, back, err)
			}
		}
		if q, err := balance.Credit(p, qty); err == nil {
			credited++
			if back, err := balance.Debit(q, qty, 0); err != nil || !balance.Same(back, p) {
				t.Fatalf("Credit(%v, %d) is %v, and Debit of that %v, %v", p, qty, q, back, err)
			}
		}
	}
	if marked < 2000 || credited < 2000 {
		t.Errorf("only %d were marked, and %d credited", marked, credited)
	}
}

// P14.10: what Debit leaves, under its name, under the others, and free.
func TestWhatDebitLeaves(t *testing.T) {
	d := newDice(4)
	whole, part, none := 0, 0, 0
	for range 60000 {
		p := d.right()
		name := d.known(p)
		qty := d.near(p, name)
		q, err := balance.Debit(p, qty, name)
		if err != nil {
			continue
		}
		was := balance.Marked(p, name)
		gave := min(was, qty)
		switch {
		case gave == qty:
			whole++
		case gave > 0:
			part++
		default:
			none++
		}
		if balance.Marked(q, name) != was-gave || q.Avail != p.Avail-(qty-gave) {
			t.Fatalf("Debit(%v, %d, %d) is %v", p, qty, name, q)
		}
		other := func(m api.Mark) bool { return m.Name == name }
		if !slices.Equal(slices.DeleteFunc(slices.Clone(p.Marks), other), slices.DeleteFunc(slices.Clone(q.Marks), other)) {
			t.Fatalf("Debit(%v, %d, %d) turns other marks: %v", p, qty, name, q)
		}
	}
	if min(whole, part, none) < 1000 {
		t.Errorf("%d were given by the mark, %d in part, %d not at all", whole, part, none)
	}
}

// P14.11: over rows of calls, the total is what was credited less what was debited, and a refusal changes nothing.
func TestConservation(t *testing.T) {
	full := 0
	for seed := range 400 {
		d := newDice(100 + seed)
		var p api.Position
		in, out := new(big.Int), new(big.Int)
		for range 150 {
			name := d.known(p)
			c := calls()[d.Below(4)]
			qty := d.near(p, name)
			if d.Below(2) == 0 { // a step that may well be answered
				name, qty = 1+d.Below(12), int64(1+d.Below(9))
			}
			q, ok := holds(t, c, p, qty, name)
			if !ok {
				continue
			}
			switch p = q; c.kind {
			case "credit":
				in.Add(in, big.NewInt(qty))
			case "debit":
				out.Add(out, big.NewInt(qty))
			}
			if want := new(big.Int).Sub(in, out); balance.Check(p) != nil || !want.IsInt64() || balance.Total(p) != want.Int64() {
				t.Fatalf("%v: its total is %d; %v was credited, %v debited", p, balance.Total(p), in, out)
			}
			if len(p.Marks) == api.MaxMarks {
				full++
			}
		}
	}
	if full < 100 {
		t.Errorf("only %d positions had all marks", full)
	}
}
