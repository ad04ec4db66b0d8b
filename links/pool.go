package links

import "custody/api"

// Pool joins legs of instructions that settle together into one instruction's.
func Pool(l [][]api.Leg) ([]api.Leg, error) {
	var legs []api.Leg
	places := map[api.Leg]int{} // of the legs, by all but their quantities
	for _, list := range l {
		for _, leg := range list {
			way := leg
			way.Qty = 0
			at, known := places[way]
			switch {
			case leg.Qty < 1:
				return nil, api.ErrAmount
			case !known:
				places[way] = len(legs)
				legs = append(legs, leg)
			case leg.Qty > api.MaxAmount-legs[at].Qty:
				return nil, api.ErrOver
			default:
				legs[at].Qty += leg.Qty
			}
		}
	}
	switch {
	case len(legs) == 0:
		return nil, api.ErrShort
	case len(legs) > api.MaxLegs:
		return nil, api.ErrMany
	}
	return legs, nil
}
