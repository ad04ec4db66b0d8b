package notice_test

import (
	"fmt"
	"slices"
	"strings"
	"testing"

	"custody/api"
	"custody/notice"
	"custody/proof"
)

// reads checks what Read answers against the second reckoning, that it changes nothing, and what P7.5 promises of it.
func reads(t *testing.T, l []api.Item) {
	t.Helper()
	want, no := reckoned(l)
	given := proof.Roomy(l)
	n, err := notice.Read(given)
	if !proof.SameNotice(n, want) || !proof.Tells(err, no) {
		t.Errorf("Read(%q) is %+v, %v (%+v); want %+v, %v", l, n, err, err, want, no)
	}
	if !proof.SameItems(given, l) || !proof.Untouched(given) {
		t.Errorf("Read(%q) changes its items", l)
	}
	if err != nil {
		return
	}
	if err := notice.Check(n); err != nil {
		t.Errorf("Read(%q) is %+v, which Check refuses: %v", l, n, err)
	}
	if again, err := notice.Write(n); err != nil || !proof.SameItems(again, l) {
		t.Errorf("Write(Read(%q)) is %q, %v", l, again, err)
	}
	if s, err := notice.Text(n); err != nil || s != printed(t, l) {
		t.Errorf("Text(Read(%q)) is %q, %v", l, s, err)
	}
}

// refuses checks that Read answers just this error, and nothing beside it.
func refuses(t *testing.T, no api.Errno, l []api.Item) {
	t.Helper()
	if n, err := notice.Read(l); !proof.SameNotice(n, api.Notice{}) || !proof.Tells(err, no) {
		t.Errorf("Read(%q) is %+v, %v (%+v); want %v", l, n, err, err, no)
	}
	reads(t, l)
}

// takes checks that Read answers this notice.
func takes(t *testing.T, want api.Notice, l []api.Item) {
	t.Helper()
	if n, err := notice.Read(l); !proof.SameNotice(n, want) || err != nil {
		t.Errorf("Read(%q) is %+v, %v; want %+v", l, n, err, want)
	}
	reads(t, l)
}

// Messages in which something is changed.

// paths are the places of all items of a list, blocks' too: at each step the place in a list.
func paths(l []api.Item) [][]int {
	var out [][]int
	for i, x := range l {
		out = append(out, []int{i})
		for _, p := range paths(x.Items) {
			out = append(out, append([]int{i}, p...))
		}
	}
	return out
}

// edited is a copy of a list, of which the list in which a path ends has become another.
func edited(l []api.Item, path []int, edit func(l []api.Item, i int) []api.Item) []api.Item {
	l = slices.Clone(l)
	if len(path) == 1 {
		return edit(l, path[0])
	}
	l[path[0]].Items = edited(l[path[0]].Items, path[1:], edit)
	return l
}

// at is the item where a path ends.
func at(l []api.Item, path []int) api.Item {
	for _, i := range path[:len(path)-1] {
		l = l[i].Items
	}
	return l[path[len(path)-1]]
}

// changed is a copy of a list, in which one item is another.
func changed(l []api.Item, path []int, change func(x *api.Item)) []api.Item {
	return edited(l, path, func(l []api.Item, i int) []api.Item {
		change(&l[i])
		return l
	})
}

// find is the path of the first field of a tag and a qualifier, in a block of this name.
func find(l []api.Item, name, tag, qual string) []int {
	inside := 0
	for _, p := range paths(l) {
		x := at(l, p)
		if x.Name == name {
			inside = len(p)
		}
		if inside > 0 && len(p) > inside && x.Tag == tag && x.Qual == qual {
			return p
		}
	}
	panic(fmt.Sprintf("no %s %s in %s of %q", tag, qual, name, l))
}

// with is a message with another text in one field.
func with(l []api.Item, name, tag, qual, text string) []api.Item {
	return changed(l, find(l, name, tag, qual), func(x *api.Item) { x.Text = text })
}

// bases are messages of each type, right ones and those of notices that Check refuses: what is wrong with the shape comes ahead.
func bases() [][]api.Item {
	var out [][]api.Item
	for _, n := range ordinary() {
		if len(n.Links) == 16 {
			continue
		}
		out = append(out, messageOf(n))
		out = append(out, messageOf(turned(n, func(n *api.Notice) {
			n.Ref, n.Trade, n.Code, n.Qty, n.Account, n.Agent, n.Other = "", 0, api.Isin{}, 0, "", "", ""
		})))
	}
	return out
}

// P7.3

func TestReadOrdinary(t *testing.T) {
	for _, n := range ordinary() {
		takes(t, n, messageOf(n))
	}
	takes(t, example(), messageOf(example()))
}

func TestReadNothing(t *testing.T) {
	refuses(t, api.ErrForm, nil)
	refuses(t, api.ErrForm, []api.Item{})
	refuses(t, api.ErrForm, []api.Item{{}})
	refuses(t, api.ErrForm, []api.Item{{}, {}, {}, {}})
	refuses(t, api.ErrForm, []api.Item{block("GENL"), block("TRADDET"), block("FIAC"), block("SETDET")})
}

// isLink tells whether an item is a link's block: these may be fewer, more, and in another order.
func isLink(x api.Item) bool { return x.Name == "LINK" }

func TestItemsLeftOutTwiceAndMoved(t *testing.T) {
	for _, l := range bases() {
		for _, p := range paths(l) {
			if !isLink(at(l, p)) {
				refuses(t, api.ErrForm, edited(l, p, func(l []api.Item, i int) []api.Item { return slices.Delete(l, i, i+1) }))
				refuses(t, api.ErrForm, edited(l, p, func(l []api.Item, i int) []api.Item { return slices.Insert(l, i, l[i]) }))
			}
			moves := 0
			moved := edited(l, p, func(l []api.Item, i int) []api.Item {
				if i+1 < len(l) && !(isLink(l[i]) && isLink(l[i+1])) {
					l[i], l[i+1] = l[i+1], l[i]
					moves++
				}
				return l
			})
			if moves > 0 {
				refuses(t, api.ErrForm, moved)
			}
			last := edited(l, p, func(l []api.Item, i int) []api.Item { // behind all others
				x := l[i]
				return append(slices.Delete(l, i, i+1), x)
			})
			reads(t, last)
		}
		refuses(t, api.ErrForm, append(slices.Clone(l), l...))
		refuses(t, api.ErrForm, []api.Item{block("GENL", l...)})
		for size := range 4 {
			refuses(t, api.ErrForm, l[:size])
			refuses(t, api.ErrForm, l[size+1:])
		}
	}
}

func TestLinksLeftOutTwiceAndMoved(t *testing.T) {
	n := turned(example(), cancel, linked(3))
	l := messageOf(n)
	for i := range 3 {
		p := []int{0, 4 + i}
		takes(t, turned(n, func(n *api.Notice) { n.Links = slices.Delete(n.Links, i, i+1) }), edited(l, p, func(l []api.Item, i int) []api.Item { return slices.Delete(l, i, i+1) }))
		takes(t, turned(n, func(n *api.Notice) { n.Links = slices.Insert(n.Links, i, n.Links[i]) }), edited(l, p, func(l []api.Item, i int) []api.Item { return slices.Insert(l, i, l[i]) }))
	}
	takes(t, turned(n, func(n *api.Notice) { n.Links[0], n.Links[1] = n.Links[1], n.Links[0] }), edited(l, []int{0, 4}, func(l []api.Item, i int) []api.Item {
		l[i], l[i+1] = l[i+1], l[i]
		return l
	}))
	link := l[0].Items[4]
	for _, p := range [][]int{{0, 0}, {0, 1}, {0, 2}, {0, 3}, {0, 5, 0}, {0, 5, 1}, {1, 0}, {2, 0}, {3, 0}, {3, 0, 0}, {0}, {1}, {2}, {3}} {
		refuses(t, api.ErrForm, edited(l, p, func(l []api.Item, i int) []api.Item { return slices.Insert(l, i, link) })) // where none belongs
	}
	takes(t, turned(n, linked(16)), messageOf(turned(n, linked(16))))
	for _, size := range []int{17, 18, 500} {
		refuses(t, api.ErrMany, messageOf(turned(n, linked(size))))
		refuses(t, api.ErrForm, with(messageOf(turned(n, linked(size))), "LINK", "22F", "LINK", "WIT"))
	}
}

func TestItemsOfAnotherMake(t *testing.T) {
	inner := []api.Item{field("20C", "SEME", "A")}
	for _, l := range bases() {
		for _, p := range paths(l) {
			x := at(l, p)
			for _, change := range []func(x *api.Item){
				func(x *api.Item) { x.Tag = "20D" },
				func(x *api.Item) { x.Tag = strings.ToLower(x.Tag) + " " },
				func(x *api.Item) { x.Qual = "SEMF" },
				func(x *api.Item) { x.Qual += "E" },
				func(x *api.Item) { x.Name = "GENM" },
				func(x *api.Item) { x.Name += "X" },
				func(x *api.Item) { x.Items = append(slices.Clone(x.Items), inner...) },
				func(x *api.Item) { x.Items = append(slices.Clone(inner), x.Items...) },
				func(x *api.Item) { x.Items = append(slices.Clone(x.Items), api.Item{}) },
				func(x *api.Item) { x.Items = []api.Item{{}} },
				func(x *api.Item) { *x = api.Item{} },
				func(x *api.Item) { *x = block("A", *x) },
				func(x *api.Item) { x.Tag, x.Name = x.Name, x.Tag },
			} {
				refuses(t, api.ErrForm, changed(l, p, change))
			}
			if x.Name != "" {
				refuses(t, api.ErrForm, changed(l, p, func(x *api.Item) { x.Text = "A" }))
				refuses(t, api.ErrForm, changed(l, p, func(x *api.Item) { x.Items = nil }))
				continue
			}
			refuses(t, api.ErrForm, changed(l, p, func(x *api.Item) { x.Tag = "" }))
			refuses(t, api.ErrForm, changed(l, p, func(x *api.Item) { *x = block(x.Tag, *x) }))
			refuses(t, api.ErrForm, changed(l, p, func(x *api.Item) { *x = block("LINK", *x) }))
			if x.Qual != "" {
				refuses(t, api.ErrForm, changed(l, p, func(x *api.Item) { x.Qual = "" }))
				refuses(t, api.ErrForm, changed(l, p, func(x *api.Item) { x.Qual = strings.ToLower(x.Qual) }))
			}
		}
	}
}

// TestEmptyLists: no items and an empty list are the same.
func TestEmptyLists(t *testing.T) {
	l := messageOf(example())
	for _, p := range paths(l) {
		if at(l, p).Tag != "" {
			takes(t, example(), changed(l, p, func(x *api.Item) { x.Items = []api.Item{} }))
			takes(t, example(), changed(l, p, func(x *api.Item) { x.Items = make([]api.Item, 0, 3) }))
		}
	}
}

func TestWhatHangsOnTheType(t *testing.T) {
	money := block("AMT", field("19A", "SETT", "EUR2500,"))
	for _, n := range ordinary() {
		l := messageOf(n)
		own := at(l, find(l, "GENL", "22F", "TYPE")).Text
		for _, kind := range []string{"540", "541", "542", "543"} {
			if kind != own {
				refuses(t, api.ErrForm, with(l, "GENL", "22F", "TYPE", kind))
			}
		}
		for _, p := range [][]int{{3, 0}, {3, 1}, {3, 2}} {
			refuses(t, api.ErrForm, edited(l, []int{3, 0}, func(l []api.Item, _ int) []api.Item { return slices.Insert(l, min(p[1], len(l)), money) }))
		}
		if n.Pay {
			refuses(t, api.ErrForm, edited(l, []int{3, 1}, func(l []api.Item, i int) []api.Item { return l[:i] }))
			refuses(t, api.ErrForm, changed(l, []int{3, 1}, func(x *api.Item) { x.Items = nil }))
		}
		mine, other := "DEAG", "REAG"
		if !n.Receive {
			mine, other = other, mine
		}
		side := find(l, "SETPRTY", "95P", mine)
		refuses(t, api.ErrForm, changed(l, side, func(x *api.Item) { x.Qual = other }))
		refuses(t, api.ErrForm, edited(l, side, func(l []api.Item, i int) []api.Item {
			return slices.Insert(l, i, field("95P", other, n.Agent))
		}))
		refuses(t, api.ErrForm, edited(l, side, func(l []api.Item, i int) []api.Item {
			return slices.Insert(l, i+1, field("95P", other, n.Agent))
		}))
	}
}

func TestWhatHangsOnACancellation(t *testing.T) {
	prev := field("20C", "PREV", "Z9")
	for _, n := range ordinary() {
		l := messageOf(n)
		other := "CANC"
		if n.Cancel {
			other = "NEWM"
		}
		refuses(t, api.ErrForm, with(l, "GENL", "23G", "", other))
		for i := range l[0].Items {
			refuses(t, api.ErrForm, edited(l, []int{0, i}, func(l []api.Item, i int) []api.Item { return slices.Insert(l, i, prev) }))
		}
		refuses(t, api.ErrForm, changed(l, []int{0}, func(x *api.Item) { x.Items = append(slices.Clone(x.Items), prev) }))
		if n.Cancel {
			p := find(l, "GENL", "20C", "PREV")
			refuses(t, api.ErrForm, edited(l, p, func(l []api.Item, i int) []api.Item { return slices.Delete(l, i, i+1) }))
			refuses(t, api.ErrForm, changed(l, p, func(x *api.Item) { x.Qual = "SEME" }))
			refuses(t, api.ErrText, changed(l, p, func(x *api.Item) { x.Text = "" }))
		}
	}
	n := turned(example(), func(n *api.Notice) { n.Links = nil })
	l := edited(messageOf(n), []int{0, 1}, func(l []api.Item, i int) []api.Item {
		l[i].Text = "CANC"
		return append(l, prev)
	})
	takes(t, turned(n, cancel), l)
}
