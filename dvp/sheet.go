package dvp

import (
	"slices"

	"custody/api"
	"custody/balance"
)

// sheet is what stands under some keys, rising, as the view told it and as it is turned. Nothing goes back to the view till all is done: so a refusal puts nothing.
type sheet []entry

// entry is what stands under a key. What was and what is now may share lists: these are never changed in their place.
type entry struct {
	key      api.Key
	was, now api.Cell
}

// read is a sheet of what a view has under keys that rise.
func read(v View, keys []api.Key) sheet {
	s := make(sheet, len(keys))
	for i, k := range keys {
		c := copied(v.Get(k))
		s[i] = entry{k, c, c}
	}
	return s
}

// copied is a cell in memory of its own: what a view tells is not kept, and what is put to it becomes its own.
func copied(c api.Cell) api.Cell {
	c.Position.Marks = slices.Clone(c.Position.Marks)
	c.Record.Legs = slices.Clone(c.Record.Legs)
	return c
}

// put puts the cells that were turned: the keys of the positions that change, rising.
func (s sheet) put(v View) []api.Key {
	var changed []api.Key
	for _, e := range s {
		held := !balance.Same(e.was.Position, e.now.Position)
		if held {
			changed = append(changed, e.key)
		}
		if held || e.was.Record.Status != e.now.Record.Status { // no record is turned but to another status
			v.Put(e.key, e.now)
		}
	}
	return changed
}

// at is the cell under a key of the sheet, to be turned.
func (s sheet) at(k api.Key) *api.Cell {
	i, _ := slices.BinarySearchFunc(s, k, func(e entry, k api.Key) int { return compare(e.key, k) })
	return &s[i].now
}

// record is that of an instruction, to be turned.
func (s sheet) record(id int) *api.Record { return &s.at(recordKey(id)).Record }

// turn lays another position in the place of one, if it may be.
func (s sheet) turn(k api.Key, by func(api.Position) (api.Position, error)) error {
	c := s.at(k)
	p, err := by(c.Position)
	if err != nil {
		return err
	}
	c.Position = p
	return nil
}

// move moves all legs, or none. All debits come ahead of all credits: what a leg brings covers none of the others.
func (s sheet) move(legs []api.Leg) error {
	moved := slices.Clone(s)
	for _, l := range legs {
		take := func(p api.Position) (api.Position, error) { return balance.Debit(p, l.Qty, l.Name) }
		if err := moved.turn(source(l), take); err != nil {
			return err
		}
	}
	for _, l := range legs {
		give := func(p api.Position) (api.Position, error) { return balance.Credit(p, l.Qty) }
		if err := moved.turn(target(l), give); err != nil {
			return err
		}
	}
	copy(s, moved)
	return nil
}
