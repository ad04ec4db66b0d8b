package notice_test

import (
	"strings"
	"testing"

	"custody/api"
	"custody/notice"
	"custody/proof"
)

// checks checks what Check answers of the example with something changed, and all else of it.
func checks(t *testing.T, no api.Errno, turns ...func(n *api.Notice)) {
	t.Helper()
	n := turned(example(), turns...)
	if err := notice.Check(n); !proof.Tells(err, no) {
		t.Errorf("Check(%+v) is %v (%+v); want %v", n, err, err, no)
	}
	writes(t, n)
}

// P7.1

func TestCheckOrdinary(t *testing.T) {
	checks(t, api.OK)
	for _, n := range ordinary() {
		if err := notice.Check(n); err != nil {
			t.Errorf("Check(%+v) is %v", n, err)
		}
		writes(t, n)
	}
}

// fault is one thing that is wrong, and a field in which two of them cannot be at once.
type fault struct {
	field string
	no    api.Errno
	turn  func(n *api.Notice)
}

// faults are the things that may be wrong with a notice against payment or one that is free, the first to be told first.
func faults(pays bool) []fault {
	l := []fault{
		{"Ref", api.ErrText, func(n *api.Notice) { n.Ref = "" }},
		{"Ref", api.ErrText, func(n *api.Notice) { n.Ref = longest + "G" }},
		{"Prev", api.ErrText, func(n *api.Notice) { n.Cancel, n.Prev = true, "" }},
		{"Prev", api.ErrText, func(n *api.Notice) { n.Cancel, n.Prev = true, "a" }},
		{"Prev", api.ErrText, func(n *api.Notice) { n.Cancel, n.Prev = false, "Z9" }},
		{"days", api.ErrDate, func(n *api.Notice) { n.Trade = 0 }},
		{"days", api.ErrDate, func(n *api.Notice) { n.Settle = lastDay + 1 }},
		{"days", api.ErrDate, func(n *api.Notice) { n.Settle = n.Trade - 1 }},
		{"Code", api.ErrForm, func(n *api.Notice) { n.Code[11]++ }},
		{"Qty", api.ErrAmount, func(n *api.Notice) { n.Qty = 0 }},
		{"Account", api.ErrAccount, func(n *api.Notice) { n.Account = "" }},
		{"Agent", api.ErrForm, func(n *api.Notice) { n.Agent = "DEUTDEF" }},
		{"Other", api.ErrAccount, func(n *api.Notice) { n.Other = "ACC-2" }},
	}
	if pays {
		l = append(l,
			fault{"Amount", api.ErrAmount, func(n *api.Notice) { n.Amount = 0 }},
			fault{"Currency", api.ErrForm, func(n *api.Notice) { n.Currency = "" }})
	} else {
		l = append(l,
			fault{"Amount", api.ErrArg, func(n *api.Notice) { n.Amount = 1 }},
			fault{"Currency", api.ErrArg, func(n *api.Notice) { n.Currency = "EUR" }})
	}
	return append(l,
		fault{"Priority", api.ErrArg, func(n *api.Notice) { n.Priority = -1 }},
		fault{"Links", api.ErrMany, linked(17)},
		fault{"Links", api.ErrKind, func(n *api.Notice) { n.Links[0].Kind = 0 }},
		fault{"Links", api.ErrText, func(n *api.Notice) { n.Links[0].Ref = "" }},
		fault{"Links", api.ErrSame, func(n *api.Notice) { n.Links[0].Ref = n.Ref }})
}

func TestEachFault(t *testing.T) {
	for _, pays := range []bool{true, false} {
		for _, side := range []bool{true, false} {
			base := func(n *api.Notice) {
				n.Receive = side
				if !pays {
					free(n)
				}
			}
			l := faults(pays)
			for i, first := range l {
				checks(t, first.no, base, first.turn)
				for _, next := range l[i+1:] {
					if next.field != first.field {
						checks(t, first.no, base, first.turn, next.turn)
					}
				}
			}
		}
	}
}

func TestFaultsOfLinks(t *testing.T) {
	kind, empty, own := api.Link{Kind: 4, Ref: ""}, api.Link{Kind: 1, Ref: ""}, api.Link{Kind: 1, Ref: "A1"}
	right := api.Link{Kind: 1, Ref: "R1"}
	for _, x := range []struct {
		no api.Errno
		l  []api.Link
	}{
		{api.OK, nil},
		{api.OK, []api.Link{}},
		{api.OK, []api.Link{right, right, right}}, // the same may be there twice
		{api.ErrKind, []api.Link{kind}},
		{api.ErrKind, []api.Link{{Kind: 4, Ref: "A1"}}},
		{api.ErrKind, []api.Link{right, kind, empty, own}},
		{api.ErrText, []api.Link{empty, kind, own}}, // link by link, not error by error
		{api.ErrText, []api.Link{right, empty, kind}},
		{api.ErrSame, []api.Link{own, kind, empty}},
		{api.ErrSame, []api.Link{right, right, own, empty}},
	} {
		checks(t, x.no, func(n *api.Notice) { n.Links = x.l })
	}
	for _, x := range []struct {
		wrong api.Link
		no    api.Errno
	}{{kind, api.ErrKind}, {empty, api.ErrText}, {own, api.ErrSame}} {
		checks(t, x.no, linked(16), func(n *api.Notice) { n.Links[15] = x.wrong })
		checks(t, api.ErrMany, linked(17), func(n *api.Notice) { n.Links[0] = x.wrong }) // how many ahead of which
		checks(t, api.ErrMany, linked(17), func(n *api.Notice) { n.Links[16] = x.wrong })
	}
	for _, kind := range []int{-1 << 63, -1, 0, 4, 5, 1<<63 - 1} {
		checks(t, api.ErrKind, func(n *api.Notice) { n.Links[0].Kind = kind })
	}
	for _, kind := range []int{api.With, api.Before, api.After} {
		checks(t, api.OK, func(n *api.Notice) { n.Links[0].Kind = kind })
	}
	checks(t, api.OK, cancel, func(n *api.Notice) { n.Links[0].Ref = n.Prev }) // only its own may not be linked
	checks(t, api.OK, cancel, func(n *api.Notice) { n.Prev = n.Ref })
	for _, size := range []int{0, 1, 2, 15, 16} {
		checks(t, api.OK, linked(size))
	}
	for _, size := range []int{17, 18, 1000} {
		checks(t, api.ErrMany, linked(size))
	}
}

func TestReferences(t *testing.T) {
	refs := []func(s string) func(n *api.Notice){
		func(s string) func(n *api.Notice) { return func(n *api.Notice) { n.Ref = s } },
		func(s string) func(n *api.Notice) { return func(n *api.Notice) { n.Cancel, n.Prev = true, s } },
		func(s string) func(n *api.Notice) { return func(n *api.Notice) { n.Links[0].Ref = s } },
	}
	for _, with := range refs {
		for _, s := range []string{"0", "9", "Z", "A2", longest, strings.Repeat("Z", 16), strings.Repeat("0", 16)} {
			checks(t, api.OK, with(s))
		}
		for _, s := range []string{"", longest + "0", strings.Repeat("Z", 100), "a", "A1a", "A 1", " A1", "A1 ", "A1\n", "\x00", "É"} {
			checks(t, api.ErrText, with(s))
		}
		for b := range 256 {
			c := string([]byte{byte(b)})
			no := api.ErrText
			if strings.Contains(signs, c) {
				no = api.OK
			}
			for _, s := range []string{c, c + "A", "A0" + c, c + longest[1:], longest[1:] + c} {
				checks(t, no, with(s), func(n *api.Notice) {
					if no == api.OK && n.Ref == "B2" { // the example's link
						n.Links = nil
					}
				})
			}
		}
	}
	checks(t, api.ErrText, cancel, func(n *api.Notice) { n.Cancel = false })
	checks(t, api.ErrText, func(n *api.Notice) { n.Prev = "\x00" })
	checks(t, api.ErrText, func(n *api.Notice) { n.Ref, n.Prev, n.Trade = "A1", "A1", 0 })
}

func TestDays(t *testing.T) {
	for _, x := range []struct {
		trade, settle int
		no            api.Errno
	}{
		{1, 1, api.OK},
		{1, 2, api.OK},
		{1, lastDay, api.OK},
		{lastDay - 1, lastDay, api.OK},
		{lastDay, lastDay, api.OK},
		{738887, 738887, api.OK},
		{738887, 738888, api.OK},
		{738887, 738886, api.ErrDate},
		{2, 1, api.ErrDate},
		{lastDay, lastDay - 1, api.ErrDate},
		{lastDay, 1, api.ErrDate},
		{0, 0, api.ErrDate},
		{0, 1, api.ErrDate},
		{-1, 1, api.ErrDate},
		{1, 0, api.ErrDate},
		{1, lastDay + 1, api.ErrDate},
		{lastDay + 1, lastDay + 1, api.ErrDate},
		{lastDay + 1, lastDay, api.ErrDate},
		{-1 << 63, 1<<63 - 1, api.ErrDate},
		{1<<63 - 1, -1 << 63, api.ErrDate},
		{1, 1<<63 - 1, api.ErrDate},
		{-1 << 63, 1, api.ErrDate},
	} {
		checks(t, x.no, func(n *api.Notice) { n.Trade, n.Settle = x.trade, x.settle })
	}
}

func TestCodes(t *testing.T) {
	for _, s := range []string{"US0378331005", "DE000BAY0017", "GB0002634946", "XS0000000009"} {
		checks(t, api.OK, func(n *api.Notice) { n.Code = isin(s) })
	}
	for _, s := range []string{"US0378331004", "us0378331005", "US037833100X", "0S0378331005", "US03783310 5", strings.Repeat("\x00", 12), strings.Repeat("0", 12), "US037833100\n"} {
		checks(t, api.ErrForm, func(n *api.Notice) { n.Code = isin(s) })
	}
	for at := range 12 {
		for b := range 256 {
			writes(t, turned(example(), func(n *api.Notice) { n.Code[at] = byte(b) }))
		}
	}
}

func TestAmounts(t *testing.T) {
	for _, x := range []struct {
		n  int64
		no api.Errno
	}{{1, api.OK}, {2, api.OK}, {10, api.OK}, {api.MaxAmount - 1, api.OK}, {api.MaxAmount, api.OK}, {0, api.ErrAmount}, {-1, api.ErrAmount}, {-1 << 63, api.ErrAmount}} {
		checks(t, x.no, func(n *api.Notice) { n.Qty = x.n })
		checks(t, x.no, free, func(n *api.Notice) { n.Qty = x.n })
		checks(t, x.no, func(n *api.Notice) { n.Amount = x.n })
	}
	for _, n := range []int64{-1 << 63, -1, 1, api.MaxAmount} {
		checks(t, api.ErrArg, free, func(x *api.Notice) { x.Amount = n })
	}
	for _, s := range []string{"EUR", "E", "euro", "\x00"} {
		checks(t, api.ErrArg, free, func(x *api.Notice) { x.Currency = s })
		checks(t, api.ErrArg, free, func(x *api.Notice) { x.Amount, x.Currency = 1, s })
	}
	checks(t, api.ErrAmount, func(n *api.Notice) { n.Pay, n.Amount, n.Currency = true, 0, "" })
}

func TestNames(t *testing.T) {
	long := strings.Repeat("9", 34)
	for _, s := range []string{"A", "0", long, "DE89370400440532013000"} {
		checks(t, api.OK, func(n *api.Notice) { n.Account = s })
		checks(t, api.OK, func(n *api.Notice) { n.Other = s })
		checks(t, api.OK, func(n *api.Notice) { n.Account, n.Other = s, s })
	}
	for _, s := range []string{"", long + "0", "a", "A-1", "A ", "A\n", "\x80"} {
		checks(t, api.ErrAccount, func(n *api.Notice) { n.Account = s })
		checks(t, api.ErrAccount, func(n *api.Notice) { n.Other = s })
	}
	for _, s := range []string{"DEUTDEFF", "DEUTDEFFXXX", "DEUTDEFF500", "AAAAAA00"} {
		checks(t, api.OK, func(n *api.Notice) { n.Agent = s })
	}
	for _, s := range []string{"", "DEUTDEF", "DEUTDEFF5", "DEUTDEFF50", "DEUTDEFF5000", "DEUT1EFF", "deutdeff", "DEUTDEFFxxx", "DEUTDEF\n"} {
		checks(t, api.ErrForm, func(n *api.Notice) { n.Agent = s })
	}
	for _, s := range []string{"EUR", "USD", "AAA", "ZZZ"} {
		checks(t, api.OK, func(n *api.Notice) { n.Currency = s })
	}
	for _, s := range []string{"", "EU", "EURO", "E1R", "eur", "EU ", "EU\n", "É€"} {
		checks(t, api.ErrForm, func(n *api.Notice) { n.Currency = s })
	}
}

func TestPriorities(t *testing.T) {
	for _, n := range []int{0, 1, 9, 10, 99, 100, 999, 1000, 9998, 9999} {
		checks(t, api.OK, func(x *api.Notice) { x.Priority = n })
	}
	for _, n := range []int{-1 << 63, -10000, -1, 10000, 10001, 1 << 20, 1<<63 - 1} {
		checks(t, api.ErrArg, func(x *api.Notice) { x.Priority = n })
		checks(t, api.ErrArg, free, func(x *api.Notice) { x.Priority = n })
	}
}

func TestNoticesOfAnyMake(t *testing.T) {
	writes(t, api.Notice{})
	writes(t, api.Notice{Pay: true, Cancel: true, Receive: true, Links: make([]api.Link, 17)})
	d := roll(71)
	for range 6000 {
		n := d.notice()
		for range d.Below(4) {
			n = d.spoilt(n)
		}
		writes(t, n)
	}
}
