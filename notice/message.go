package notice

import (
	"slices"

	"custody/api"
)

// place is where an item stands in a message: a field, with the form of its text, or a block, with the places in it.
type place struct {
	tag, qual string
	form
	name  string
	in    []place
	there func(n *api.Notice) bool // whether it belongs there; none: always
	links bool                     // it stands there once for each link
}

// message is what stands where. What one place hangs on stands ahead of it, so that it is known when that place is read.
func message() []place {
	return []place{
		{name: "GENL", in: []place{
			{tag: "20C", qual: "SEME", form: anyText(func(n *api.Notice) *string { return &n.Ref })},
			{tag: "23G", form: form{tellFunction, takeFunction}},
			{tag: "22F", qual: "TYPE", form: form{tellType, takeType}},
			{tag: "20C", qual: "PREV", form: anyText(func(n *api.Notice) *string { return &n.Prev }), there: func(n *api.Notice) bool { return n.Cancel }},
			{name: "LINK", links: true, in: []place{
				{tag: "22F", qual: "LINK", form: form{tellKind, takeKind}},
				{tag: "20C", qual: "RELA", form: anyText(func(n *api.Notice) *string { return &lastLink(n).Ref })},
			}},
		}},
		{name: "TRADDET", in: []place{
			{tag: "98A", qual: "TRAD", form: date(func(n *api.Notice) *int { return &n.Trade })},
			{tag: "98A", qual: "SETT", form: date(func(n *api.Notice) *int { return &n.Settle })},
			{tag: "35B", form: form{tellCode, takeCode}},
			{tag: "22F", qual: "PRIR", form: form{tellPriority, takePriority}},
		}},
		{name: "FIAC", in: []place{
			{tag: "36B", qual: "SETT", form: form{tellQty, takeQty}},
			{tag: "97A", qual: "SAFE", form: anyText(func(n *api.Notice) *string { return &n.Account })},
		}},
		{name: "SETDET", in: []place{
			{name: "SETPRTY", in: []place{
				{tag: "95P", qual: "DEAG", form: anyText(agent), there: func(n *api.Notice) bool { return n.Receive }},
				{tag: "95P", qual: "REAG", form: anyText(agent), there: func(n *api.Notice) bool { return !n.Receive }},
				{tag: "97A", qual: "SAFE", form: anyText(func(n *api.Notice) *string { return &n.Other })},
			}},
			{name: "AMT", there: func(n *api.Notice) bool { return n.Pay }, in: []place{
				{tag: "19A", qual: "SETT", form: form{tellMoney, takeMoney}},
			}},
		}},
	}
}

func agent(n *api.Notice) *string { return &n.Agent }

// lastLink is the link that a block LINK tells: of a notice that is being read the newest one; where it is written, there are only those up to it.
func lastLink(n *api.Notice) *api.Link { return &n.Links[len(n.Links)-1] }

// write is what stands at places, of a notice that Check takes.
func write(places []place, n *api.Notice) []api.Item {
	var l []api.Item
	for _, p := range places {
		switch {
		case p.links:
			for i := range n.Links {
				upTo := *n
				upTo.Links = n.Links[:i+1]
				l = append(l, p.write(&upTo))
			}
		case p.belongs(n):
			l = append(l, p.write(n))
		}
	}
	return l
}

// write is the one item that stands at a place.
func (p place) write(n *api.Notice) api.Item {
	if p.name != "" {
		return api.Item{Name: p.name, Items: write(p.in, n)}
	}
	return api.Item{Tag: p.tag, Qual: p.qual, Text: p.tell(n)}
}

// belongs tells whether an item stands at a place, of a notice of which all is known that stands ahead of it.
func (p place) belongs(n *api.Notice) bool { return p.there == nil || p.there(n) }

// read puts what items tell into a notice, and tells whether just those items are there that stand at these places.
func read(places []place, n *api.Notice, l []api.Item) bool {
	for _, p := range places {
		switch {
		case p.links:
			for len(l) > 0 && l[0].Name == p.name {
				n.Links = append(n.Links, api.Link{})
				if !p.read(n, l[0]) {
					return false
				}
				l = l[1:]
			}
		case p.belongs(n):
			if len(l) == 0 || !p.read(n, l[0]) {
				return false
			}
			l = l[1:]
		}
	}
	return len(l) == 0
}

// read puts what one item tells into a notice, and tells whether it is the item of this place.
func (p place) read(n *api.Notice, x api.Item) bool {
	if x.Tag != p.tag || x.Qual != p.qual || x.Name != p.name {
		return false
	}
	if p.name != "" {
		return x.Text == "" && read(p.in, n, x.Items)
	}
	return len(x.Items) == 0 && p.take(n, x.Text)
}

// same tells whether two messages are the same.
func same(a, b []api.Item) bool { return slices.EqualFunc(a, b, sameItem) }

func sameItem(a, b api.Item) bool {
	return a.Tag == b.Tag && a.Qual == b.Qual && a.Text == b.Text && a.Name == b.Name && same(a.Items, b.Items)
}
