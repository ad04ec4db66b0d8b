package guard

import "custody/api"

// config is how many accounts and assets there are: what else a configuration says is not looked at.
type config api.Config

func (c config) hasAccount(n int) bool { return n >= 0 && n < c.Accounts }

func (c config) hasAsset(n int) bool { return n >= 0 && n < c.Assets }

func (c config) key(k api.Key) error {
	if !c.hasAccount(k.Account) {
		return api.ErrAccount
	}
	if !c.hasAsset(k.Asset) {
		return api.ErrAsset
	}
	return nil
}

func (c config) held(o api.Op) error {
	if err := c.key(api.Key{Account: o.Account, Asset: o.Asset}); err != nil {
		return err
	}
	if o.Qty < 1 {
		return api.ErrAmount
	}
	return nil
}

func (c config) marked(o api.Op) error {
	if err := c.held(o); err != nil {
		return err
	}
	if !within(o.Name, 1, api.MaxName) {
		return api.ErrMark
	}
	return nil
}

func (c config) identified(o api.Op) error {
	if !within(o.Id, 1, api.MaxId) {
		return api.ErrArg
	}
	return nil
}

func (c config) submitted(o api.Op) error {
	if err := c.identified(o); err != nil {
		return err
	}
	if len(o.Legs) == 0 {
		return api.ErrShort
	}
	if len(o.Legs) > api.MaxLegs {
		return api.ErrMany
	}
	for _, l := range o.Legs {
		if err := c.leg(l); err != nil {
			return err
		}
	}
	return nil
}

func (c config) leg(l api.Leg) error {
	switch {
	case !c.hasAccount(l.From), !c.hasAccount(l.To):
		return api.ErrAccount
	case l.From == l.To:
		return api.ErrSame
	case !c.hasAsset(l.Asset):
		return api.ErrAsset
	case l.Qty < 1:
		return api.ErrAmount
	case !within(l.Name, 0, api.MaxName):
		return api.ErrMark
	}
	return nil
}

func (c config) paired(o api.Op) error {
	if len(o.Pairs) > api.MaxPairs {
		return api.ErrMany
	}
	for _, k := range o.Pairs {
		if err := c.key(k); err != nil {
			return err
		}
	}
	return nil
}
