package notice_test

import (
	"slices"
	"strings"
	"testing"

	"custody/api"
	"custody/notice"
	"custody/proof"
)

// spot is a field: its block, tag and qualifier.
type spot [3]string

var (
	ownRef     = spot{"GENL", "20C", "SEME"}
	function   = spot{"GENL", "23G", ""}
	kind       = spot{"GENL", "22F", "TYPE"}
	prevRef    = spot{"GENL", "20C", "PREV"}
	linkKind   = spot{"LINK", "22F", "LINK"}
	linkRef    = spot{"LINK", "20C", "RELA"}
	trade      = spot{"TRADDET", "98A", "TRAD"}
	settle     = spot{"TRADDET", "98A", "SETT"}
	security   = spot{"TRADDET", "35B", ""}
	priority   = spot{"TRADDET", "22F", "PRIR"}
	quantity   = spot{"FIAC", "36B", "SETT"}
	ownAccount = spot{"FIAC", "97A", "SAFE"}
	otherSide  = spot{"SETPRTY", "95P", "DEAG"}
	otherSafe  = spot{"SETPRTY", "97A", "SAFE"}
	money      = spot{"AMT", "19A", "SETT"}
)

// put is a message with another text at a spot.
func (s spot) put(l []api.Item, text string) []api.Item { return with(l, s[0], s[1], s[2], text) }

// whole is a message that has every field.
func whole() []api.Item { return messageOf(turned(example(), cancel)) }

// formless checks texts that are not of the form of a field, also where Check would refuse the notice.
func (s spot) formless(t *testing.T, texts ...string) {
	t.Helper()
	for _, text := range texts {
		refuses(t, api.ErrForm, s.put(whole(), text))
		for _, wrong := range []spot{ownRef, ownAccount, otherSafe, linkRef} {
			refuses(t, api.ErrForm, s.put(wrong.put(whole(), "a"), text))
		}
	}
}

// answers checks what Read answers where a text is of the form: no error, or Check's.
func (s spot) answers(t *testing.T, no api.Errno, texts ...string) {
	t.Helper()
	for _, text := range texts {
		l := s.put(whole(), text)
		if _, err := notice.Read(l); !proof.Tells(err, no) {
			t.Errorf("with %q Read is %v (%+v); want %v", text, err, err, no)
		}
		reads(t, l)
	}
}

func TestWordsOfMessages(t *testing.T) {
	function.formless(t, "", "NEW", "NEWMS", "newm", "CANCEL", "canc", " CANC", "CANC\n", "NEWM")
	kind.formless(t, "", "54", "5411", "0541", "539", "544", "540", "542", "543", "+541", "541 ", "54l", "-541")
	linkKind.formless(t, "", "WIT", "WITHH", "with", "BEFORE", "AFTER", "AFTE ", "1", "\x00")
	linkKind.answers(t, api.OK, "WITH", "BEFO", "AFTE")
	security.formless(t, "", "ISIN", "ISIN ", "US0378331005", "ISINUS0378331005", "ISIN  US0378331005", "isin US0378331005", "ISIN US037833100", "ISIN US03783310055", " ISIN US0378331005", "ISIN US0378331005 ", "ISIN\nUS0378331005", "ISIN US0378331é05x", "LEI  US0378331005")
	security.answers(t, api.OK, "ISIN DE000BAY0017", "ISIN GB0002634946")
	priority.formless(t, "", "3", "003", "00003", "-003", "+003", " 003", "003 ", "00 3", "OOO3", "1e03", "0x03", "12.3", "00３", "0３")
	priority.answers(t, api.OK, "0000", "0001", "0010", "0999", "1000", "9999")
	refuses(t, api.ErrForm, security.put(whole(), "ISIN US0378331004")) // of the form, but no ISIN
	refuses(t, api.ErrForm, security.put(whole(), "ISIN "+strings.Repeat("\x80", 12)))
	refuses(t, api.ErrDate, security.put(trade.put(whole(), "00000000"), "ISIN "+strings.Repeat("\x80", 12)))
	refuses(t, api.ErrForm, security.put(trade.put(whole(), "00000000"), "ISIN "+strings.Repeat("\x80", 11)))
	refuses(t, api.ErrForm, security.put(trade.put(whole(), "00000000"), "ISIN "+strings.Repeat("é", 12)))
	refuses(t, api.ErrDate, security.put(trade.put(whole(), "00000000"), "ISIN "+strings.Repeat("é", 6)))
}

func TestDatesOfMessages(t *testing.T) {
	for _, s := range []spot{trade, settle} {
		s.formless(t, "", "2024014", "202401044", "2024-01-04", "2024 104", "+2024104", "-2024104", "20240I04", "20240１", " 20240104", "20240104 ", "20240104\n", "0x240104")
		s.answers(t, api.ErrDate, "20240230", "20230229", "19000229", "20240431", "20241301", "20240001", "20240100", "20240132", "00000101", "00000000", "99999999", "99991232")
	}
	trade.answers(t, api.OK, "00010101", "20240102", "20240103", "20240104", "20000229")
	trade.answers(t, api.ErrDate, "20240105", "99991231") // Settle is ahead of them
	settle.answers(t, api.OK, "20240102", "20240103", "20240229", "20240630", "99991231", "20280229")
	settle.answers(t, api.ErrDate, "20240101", "00010101", "20231231")
	for _, x := range []struct {
		text string
		day  int
	}{{"00010101", 1}, {"00010102", 2}, {"00011231", 365}, {"20240102", 738887}, {"99991231", lastDay}} {
		want := turned(example(), func(n *api.Notice) { n.Trade, n.Settle = x.day, x.day })
		takes(t, want, settle.put(trade.put(messageOf(example()), x.text), x.text))
	}
}

func TestAmountsOfMessages(t *testing.T) {
	for _, x := range []struct {
		s    spot
		lead string
		set  func(n *api.Notice, to int64)
	}{
		{quantity, "UNIT/", func(n *api.Notice, to int64) { n.Qty = to }},
		{money, "EUR", func(n *api.Notice, to int64) { n.Amount = to }},
	} {
		for _, text := range []string{"", ",", "1", "1,,", "1,0", "1.", "1, ", " 1,", "+1,", "-1,", "1 0,", "1e3,", "0x1,", "1_0,", "１,", "1,\n", "a,", "/1,"} {
			x.s.formless(t, x.lead+text)
		}
		x.s.formless(t, x.lead+"99999999999999999999,", x.lead+"00000000000000000001,", x.lead+"09223372036854775807,", x.lead+"00000000000000000000,", x.lead+strings.Repeat("0", 100)+"1,")
		x.s.answers(t, api.ErrAmount, x.lead+"0,", x.lead+"00,", x.lead+strings.Repeat("0", 19)+",")
		x.s.answers(t, api.ErrAmount, x.lead+"9223372036854775808,", x.lead+"9999999999999999999,", x.lead+"9300000000000000000,") // more than an amount
		x.s.answers(t, api.ErrForm, x.lead+"01,", x.lead+"0100,", x.lead+strings.Repeat("0", 18)+"1,", x.lead+"0922337203685477580,")
		for text, want := range map[string]int64{"1,": 1, "10,": 10, "9,": 9, "1000000000000000000,": 1e18, "9223372036854775806,": api.MaxAmount - 1, "9223372036854775807,": api.MaxAmount} {
			takes(t, turned(example(), func(n *api.Notice) { x.set(n, want) }), x.s.put(messageOf(example()), x.lead+text))
		}
	}
	quantity.formless(t, "UNIT100,", "UNIT//100,", "unit/100,", "FAMT/100,", "UNIT/", "100,", " UNIT/100,")
	money.formless(t, "EU1,", "E1,", "1,", "EUR,", "EURO1,", "EUR 1,", "")
	money.answers(t, api.ErrForm, "eur1,", "E1R1,", "1231,", "\x80\x80\x801,", "€1,", ",,,1,") // any three bytes, which are no currency
	money.answers(t, api.OK, "USD1,", "AAA2500,")
}

// TestAnyTexts: all other texts may be any, as far as the shape goes.
func TestAnyTexts(t *testing.T) {
	for _, x := range []struct {
		s     spot
		no    api.Errno
		right []string
	}{
		{ownRef, api.ErrText, []string{"A", longest}},
		{prevRef, api.ErrText, []string{"A", longest, "A1"}},
		{linkRef, api.ErrText, []string{"A", longest}},
		{ownAccount, api.ErrAccount, []string{"A", strings.Repeat("0", 34)}},
		{otherSafe, api.ErrAccount, []string{"A", strings.Repeat("0", 34)}},
		{otherSide, api.ErrForm, []string{"DEUTDEFFXXX", "AAAAAA00"}},
	} {
		x.s.answers(t, api.OK, x.right...)
		x.s.answers(t, x.no, "", "a", " ", "\n", "\x00", "\x80\xff", "é", `"`, `\`, `\"`, strings.Repeat("A", 35), strings.Repeat("A", 1<<16))
	}
	linkRef.answers(t, api.ErrSame, "A1")
	ownRef.answers(t, api.ErrSame, "B2")
}

// TestOrderOfErrors: a shape or a text that is wrong, ahead of what Check says, ahead of another form.
func TestOrderOfErrors(t *testing.T) {
	zeros := func(l []api.Item) []api.Item { return quantity.put(l, "UNIT/0100,") }
	refuses(t, api.ErrForm, zeros(whole()))
	refuses(t, api.ErrForm, money.put(whole(), "EUR02500,"))
	for _, x := range []struct {
		s    spot
		text string
		no   api.Errno
	}{
		{ownRef, "", api.ErrText}, {prevRef, "", api.ErrText}, {trade, "20240230", api.ErrDate}, {settle, "20240101", api.ErrDate},
		{ownAccount, "", api.ErrAccount}, {otherSafe, "", api.ErrAccount}, {money, "EUR0,", api.ErrAmount}, {linkRef, "", api.ErrText}, {linkRef, "A1", api.ErrSame},
	} {
		wrong := x.s.put(whole(), x.text)
		refuses(t, x.no, wrong)
		refuses(t, x.no, zeros(wrong)) // Check's ahead of another form
		refuses(t, api.ErrForm, append(slices.Clone(wrong), wrong[3]))
		refuses(t, api.ErrForm, linkKind.put(wrong, "with"))
		refuses(t, api.ErrForm, quantity.put(wrong, "UNIT/99999999999999999999,"))
	}
	refuses(t, api.ErrMany, zeros(messageOf(turned(example(), linked(17)))))
	refuses(t, api.ErrAmount, money.put(zeros(whole()), "EUR00,"))
	refuses(t, api.ErrAmount, money.put(quantity.put(whole(), "UNIT/0,"), "EUR01,"))
}

// TestFaultsOfCheckAreRead: where a message can tell what is wrong, Read answers as Check does.
func TestFaultsOfCheckAreRead(t *testing.T) {
	for _, n := range ordinary() {
		if len(n.Links) != 3 {
			continue
		}
		for _, first := range faults(n.Pay) {
			for _, next := range faults(n.Pay) {
				wrong := turned(n, first.turn)
				if next.field != first.field {
					next.turn(&wrong)
				}
				l := messageOf(wrong)
				reads(t, l)
				if told, ok := toldBy(l); ok && proof.SameNotice(told, wrong) {
					refuses(t, judged(wrong), l)
				}
			}
		}
	}
}
