package balance

import (
	"cmp"
	"slices"

	"custody/amount"
	"custody/api"
)

// noName is the name of no mark: what is free.
const noName = 0

// isName tells whether a mark can have this name.
func isName(name int) bool { return name > noName && name <= api.MaxName }

// weigh is the total of a position; or what is wrong with it.
func weigh(p api.Position) (int64, error) {
	if p.Avail < 0 {
		return 0, api.Fault{No: api.ErrArg, At: atAvail}
	}
	if len(p.Marks) > api.MaxMarks {
		return 0, api.Fault{No: api.ErrMany, At: api.MaxMarks}
	}
	last := noName
	for i, m := range p.Marks {
		if m.Name <= last || !isName(m.Name) || m.Qty < 1 {
			return 0, api.Fault{No: api.ErrArg, At: i}
		}
		last = m.Name
	}
	return sum(p)
}

// sum is all that is held together, of marks that are right each by itself: of a mark that isn't, ErrArg is told ahead of ErrOver, wherever it stands.
func sum(p api.Position) (int64, error) {
	total := p.Avail
	for i, m := range p.Marks {
		more, err := amount.Add(total, m.Qty)
		if err != nil {
			return 0, api.Fault{No: api.ErrOver, At: i}
		}
		total = more
	}
	return total, nil
}

// place is where the mark of a name stands, or would stand, and whether it is there.
func place(marks []api.Mark, name int) (int, bool) {
	return slices.BinarySearchFunc(marks, name, func(m api.Mark, name int) int { return cmp.Compare(m.Name, name) })
}

// under is what stands under a name; a mark that is there has more than 0.
func under(marks []api.Mark, name int) int64 {
	if i, ok := place(marks, name); ok {
		return marks[i].Qty
	}
	return 0
}

// turned is a position as another one, but with so much free, and so much under a name: with 0 there is no mark of it. It shares no memory with the other.
func turned(p api.Position, avail int64, name int, qty int64) api.Position {
	from, ok := place(p.Marks, name)
	to := from
	if ok {
		to++
	}
	var mark []api.Mark
	if qty > 0 {
		mark = []api.Mark{{Name: name, Qty: qty}}
	}
	return api.Position{Avail: avail, Marks: slices.Concat(p.Marks[:from], mark, p.Marks[to:])}
}
