package notice_test

import (
	"slices"
	"strings"
	"testing"
	"unsafe"

	"custody/api"
	"custody/notice"
	"custody/proof"
)

// P7.5: writes, reads and ofs check it of each notice, each list and each text that they are given. Here: of those that are drawn.

func TestOneFormEach(t *testing.T) {
	d := roll(72)
	for range 4000 {
		n := d.notice()
		if err := notice.Check(n); err != nil {
			t.Fatalf("Check(%+v) is %v", n, err)
		}
		writes(t, n)
	}
}

// TestMessagesOfAnyMake: messages in which some things are changed, wrong or not.
func TestMessagesOfAnyMake(t *testing.T) {
	d := roll(73)
	right := 0
	for range 10000 {
		n := d.notice()
		n.Links = n.Links[:min(len(n.Links), 3)]
		l := messageOf(n)
		for range 1 + d.Below(3) {
			l = d.edit(l)
		}
		if no := second(reckoned(l)); no == api.OK {
			right++
		}
		reads(t, l)
	}
	if right < 1000 {
		t.Errorf("only %d messages were right", right)
	}
}

func second[A, B any](_ A, b B) B { return b }

// edit is a message in which one thing is changed.
func (d *dice) edit(l []api.Item) []api.Item {
	all := paths(l)
	if len(all) == 0 {
		return l
	}
	p := all[d.Below(len(all))]
	other := at(l, all[d.Below(len(all))])
	return edited(l, p, func(l []api.Item, i int) []api.Item {
		x := &l[i]
		switch d.Below(12) {
		case 0:
			return slices.Delete(l, i, i+1)
		case 1:
			return slices.Insert(l, i, *x)
		case 2:
			return slices.Insert(l, i, other)
		case 3:
			*x = other
		case 4:
			j := d.Below(len(l))
			l[i], l[j] = l[j], l[i]
		case 5:
			x.Items = nil
		case 6:
			x.Name, x.Tag, x.Qual = pick(d, "", "LINK", "AMT", other.Name), pick(d, x.Tag, "", other.Tag), pick(d, x.Qual, "", other.Qual)
		default:
			if x.Tag != "" {
				x.Text = d.near(x.Text, other.Text)
			}
		}
		return l
	})
}

// near is a text like this one, or like another.
func (d *dice) near(s, other string) string {
	i := d.Below(len(s) + 1)
	return pick(d, s, other, d.text(), s[:i]+d.Text(1, signs+", /a")+s[i:], s[:i]+s[min(i+1, len(s)):], s[:i]+d.Text(1, signs)+s[min(i+1, len(s)):],
		pick(d, "540", "541", "542", "543", "NEWM", "CANC", "WITH", "BEFO", "AFTE", "20240230", "20240229", "UNIT/1,", "UNIT/01,", "EUR1,", "EUR00,", "0000", "9999"))
}

// P7.6

func TestUnlikeNoticesHaveUnlikeTexts(t *testing.T) {
	d := roll(74)
	seen := map[string]api.Notice{}
	for range 20000 {
		n := api.Notice{
			Ref: d.Text(1+d.Below(2), "A1"), Receive: d.yes(), Trade: 1 + d.Below(2), Settle: 2 + d.Below(2), Code: isin(pick(d, "AA00000C0004", "AA00000K0004")),
			Qty: pick[int64](d, 1, 11), Account: d.Text(1+d.Below(2), "A1"), Agent: pick(d, "DEUTDEFF", "DEUTDEFFXXX"), Other: d.Text(1, "A1"), Priority: d.Below(2),
		}
		if d.yes() {
			n.Cancel, n.Prev = true, d.Text(1, "AB")
		}
		if d.yes() {
			n.Pay, n.Amount, n.Currency = true, pick[int64](d, 1, 11), pick(d, "EUR", "USD")
		}
		for range d.Below(3) {
			n.Links = append(n.Links, api.Link{Kind: 1 + d.Below(3), Ref: "C" + d.Text(d.Below(2), "C")})
		}
		s, err := notice.Text(n)
		if err != nil {
			t.Fatalf("Text(%+v) is %v", n, err)
		}
		if was, ok := seen[s]; ok && !proof.SameNotice(was, n) {
			t.Errorf("%+v and %+v have the text %q", was, n, s)
		}
		seen[s] = n
	}
	for _, n := range ordinary() {
		for range 20 {
			other := d.spoilt(n)
			if judged(other) != api.OK {
				continue
			}
			a, err := notice.Text(n)
			b, err2 := notice.Text(other)
			if err != nil || err2 != nil || (a == b) != proof.SameNotice(n, other) {
				t.Errorf("%+v and %+v have the texts %q and %q, %v, %v", n, other, a, b, err, err2)
			}
		}
	}
}

// P7.7

func TestBothSides(t *testing.T) {
	d := roll(75)
	for range 6000 {
		n := d.notice()
		for range d.Below(3) {
			n = d.spoilt(n)
		}
		about := turned(n, func(n *api.Notice) { n.Receive = !n.Receive })
		no := judged(n)
		if err := notice.Check(about); !proof.Tells(err, no) {
			t.Errorf("Check(%+v) is %v; of the other side it is %v", about, err, no)
		}
		if no != api.OK {
			continue
		}
		a, err := notice.Text(n)
		b, err2 := notice.Text(about)
		if got := asReceived(a); err != nil || err2 != nil || got != asReceived(b) || a == b {
			t.Errorf("Text(%+v) is %q, and of the other side %q, %v, %v", n, a, b, err, err2)
		}
	}
}

// asReceived is the text of a notice with the type and the qualifier that it has if securities are received.
func asReceived(s string) string {
	return strings.NewReplacer("::TYPE//542\n", "::TYPE//540\n", "::TYPE//543\n", "::TYPE//541\n", ":95P::REAG//", ":95P::DEAG//").Replace(s)
}

// R4

// lender hands out texts in memory that it overwrites when it takes them back.
type lender struct{ lent [][]byte }

func (l *lender) lend(s string) string {
	b := append([]byte(nil), s...)
	l.lent = append(l.lent, b)
	return unsafe.String(unsafe.SliceData(b), len(b))
}

func (l *lender) takeBack() {
	for _, b := range l.lent {
		for i := range b {
			b[i] = '#'
		}
	}
}

func (l *lender) notice(n api.Notice) api.Notice {
	n.Ref, n.Prev, n.Account, n.Agent, n.Other, n.Currency = l.lend(n.Ref), l.lend(n.Prev), l.lend(n.Account), l.lend(n.Agent), l.lend(n.Other), l.lend(n.Currency)
	n.Links = slices.Clone(n.Links)
	for i := range n.Links {
		n.Links[i].Ref = l.lend(n.Links[i].Ref)
	}
	return n
}

func (l *lender) items(list []api.Item) []api.Item {
	out := slices.Clone(list)
	for i, x := range out {
		out[i] = api.Item{Tag: l.lend(x.Tag), Qual: l.lend(x.Qual), Text: l.lend(x.Text), Name: l.lend(x.Name), Items: l.items(x.Items)}
	}
	return out
}

func TestAnswersAreNewMemory(t *testing.T) {
	for _, n := range ordinary() {
		want := messageOf(n)
		text := printed(t, want)
		var from lender
		given, list := from.notice(n), from.items(want)
		l, err := notice.Write(given)
		s, err2 := notice.Text(given)
		one, err3 := notice.Read(list)
		two, err4 := notice.Of(from.lend(text))
		if err != nil || err2 != nil || err3 != nil || err4 != nil {
			t.Fatalf("%+v: %v, %v, %v, %v", n, err, err2, err3, err4)
		}
		from.takeBack()
		proof.Spoil(list)
		clear(given.Links)
		if !proof.SameItems(l, want) || s != text || !proof.SameNotice(one, n) || !proof.SameNotice(two, n) {
			t.Errorf("what is answered of %+v shares memory with what was handed in", n)
		}
	}
}

func TestAnswersShareNoMemory(t *testing.T) {
	for _, n := range ordinary() {
		want := messageOf(n)
		one, _ := notice.Write(n)
		two, _ := notice.Write(n)
		proof.Overrun(one)
		if !proof.SameItems(one, want) {
			t.Errorf("two lists of Write(%+v) share memory: %q", n, one)
		}
		a, _ := notice.Read(two)
		b, _ := notice.Read(two)
		proof.Spoil(one)
		if !proof.SameItems(two, want) {
			t.Errorf("two answers of Write(%+v) share memory: %q", n, two)
		}
		clear(a.Links[:cap(a.Links)])
		if !proof.SameNotice(b, n) {
			t.Errorf("two answers of Read(%q) share memory: %+v", want, b)
		}
	}
}

// TestVeryDeep: as many parts nested in one another as the document allows, where none belong.
func TestVeryDeep(t *testing.T) {
	var deep []api.Item
	for range 1<<16 - 8 {
		deep = []api.Item{block("LINK", deep...)}
	}
	l := messageOf(example())
	for _, p := range append(paths(l), []int{0}) {
		wrong := changed(l, p, func(x *api.Item) { x.Items = deep })
		if n, err := notice.Read(wrong); !proof.SameNotice(n, api.Notice{}) || !proof.Tells(err, api.ErrForm) {
			t.Errorf("Read is %+v, %v (%+v)", n, err, err)
		}
	}
	if n, err := notice.Read(deep); !proof.SameNotice(n, api.Notice{}) || !proof.Tells(err, api.ErrForm) {
		t.Errorf("Read is %+v, %v (%+v)", n, err, err)
	}
}
