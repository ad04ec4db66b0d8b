package dvp

import (
	"cmp"
	"slices"

	"custody/api"
)

// ofRecords stands in the place of an account in the keys of records.
const ofRecords = -1

// Keys are the keys that an operation reads or writes (of Cancel and Status: its record's alone), rising.
func Keys(o api.Op) []api.Key {
	switch o.Code {
	case api.OpDeposit, api.OpWithdraw, api.OpMark, api.OpUnmark:
		return []api.Key{positionKey(o)}
	case api.OpSubmit:
		return LegKeys(o.Id, o.Legs)
	case api.OpCancel, api.OpStatus:
		return []api.Key{recordKey(o.Id)}
	case api.OpSnapshot:
		return rising(slices.Clone(o.Pairs))
	}
	return nil
}

// LegKeys are the keys of legs and of their instruction's record, rising.
func LegKeys(id int, legs []api.Leg) []api.Key {
	keys := []api.Key{recordKey(id)}
	for _, l := range legs {
		keys = append(keys, source(l), target(l))
	}
	return rising(keys)
}

// positionKey is the key of the position of an operation that turns one alone.
func positionKey(o api.Op) api.Key { return api.Key{Account: o.Account, Asset: o.Asset} }

// recordKey is the key of an instruction's record.
func recordKey(id int) api.Key { return api.Key{Account: ofRecords, Asset: id} }

// source is the key of the position that a leg takes from.
func source(l api.Leg) api.Key { return api.Key{Account: l.From, Asset: l.Asset} }

// target is the key of the position that a leg puts to.
func target(l api.Leg) api.Key { return api.Key{Account: l.To, Asset: l.Asset} }

// rising puts keys in their order, each once, in the memory that they have.
func rising(keys []api.Key) []api.Key {
	slices.SortFunc(keys, compare)
	return slices.Compact(keys)
}

// compare is below 0, if the first key stands ahead of the other, and 0, if they are the same.
func compare(a, b api.Key) int {
	return cmp.Or(cmp.Compare(a.Account, b.Account), cmp.Compare(a.Asset, b.Asset))
}
