package notice_test

import (
	"fmt"
	"math/big"
	"regexp"
	"slices"
	"strconv"
	"strings"
	"testing"
	"time"

	"custody/api"
	"custody/codes"
	"custody/notice"
	"custody/proof"
	"custody/tags"
)

const (
	signs   = "0123456789ABCDEFGHIJKLMNOPQRSTUVWXYZ"
	lastDay = 3652059
	longest = "0123456789ABCDEF" // of references
)

// exampleText is the chapter's.
const exampleText = `:16R:GENL
:20C::SEME//A1
:23G:NEWM
:22F::TYPE//541
:16R:LINK
:22F::LINK//BEFO
:20C::RELA//B2
:16S:LINK
:16S:GENL
:16R:TRADDET
:98A::TRAD//20240102
:98A::SETT//20240104
:35B:ISIN US0378331005
:22F::PRIR//0003
:16S:TRADDET
:16R:FIAC
:36B::SETT//UNIT/100,
:97A::SAFE//ACC1
:16S:FIAC
:16R:SETDET
:16R:SETPRTY
:95P::DEAG//DEUTDEFF
:97A::SAFE//ACC2
:16S:SETPRTY
:16R:AMT
:19A::SETT//EUR2500,
:16S:AMT
:16S:SETDET
`

// example is the chapter's notice.
func example() api.Notice {
	return api.Notice{
		Ref: "A1", Receive: true, Pay: true, Trade: 738887, Settle: 738889, Code: isin("US0378331005"), Qty: 100,
		Account: "ACC1", Agent: "DEUTDEFF", Other: "ACC2", Amount: 2500, Currency: "EUR", Priority: 3,
		Links: []api.Link{{Kind: api.Before, Ref: "B2"}},
	}
}

func isin(s string) api.Isin { return api.Isin([]byte(s)) }

// turned is a notice with something in it changed.
func turned(n api.Notice, turns ...func(n *api.Notice)) api.Notice {
	n.Links = slices.Clone(n.Links)
	for _, turn := range turns {
		turn(&n)
	}
	return n
}

func free(n *api.Notice) { n.Pay, n.Amount, n.Currency = false, 0, "" }

func deliver(n *api.Notice) { n.Receive = false }

func cancel(n *api.Notice) { n.Cancel, n.Prev = true, "Z9" }

// linked gives a notice so many links, by turns of each kind.
func linked(size int) func(n *api.Notice) {
	return func(n *api.Notice) {
		n.Links = nil
		for i := range size {
			n.Links = append(n.Links, api.Link{Kind: 1 + i%3, Ref: "L" + strconv.Itoa(i)})
		}
	}
}

// ordinary are right notices of each type, with and without a cancellation, with none, some and as many links as may be.
func ordinary() []api.Notice {
	var out []api.Notice
	for i := range 8 {
		for _, size := range []int{0, 1, 3, 16} {
			n := turned(example(), linked(size))
			for bit, turn := range []func(*api.Notice){free, deliver, cancel} {
				if i>>bit&1 > 0 {
					turn(&n)
				}
			}
			out = append(out, n)
		}
	}
	return out
}

// A second reckoning of Check: forms by regular expressions, and all that is wrong in a row.

var (
	refForm      = regexp.MustCompile(`\A[0-9A-Z]{1,16}\z`)
	accountForm  = regexp.MustCompile(`\A[0-9A-Z]{1,34}\z`)
	bicForm      = regexp.MustCompile(`\A[A-Z]{6}[0-9A-Z]{2}([0-9A-Z]{3})?\z`)
	currencyForm = regexp.MustCompile(`\A[A-Z]{3}\z`)
	isinForm     = regexp.MustCompile(`\A[A-Z]{2}[0-9A-Z]{9}[0-9]\z`)
)

type look struct {
	wrong bool
	no    api.Errno
}

// judged is what Check should answer.
func judged(n api.Notice) api.Errno {
	l := []look{
		{!refForm.MatchString(n.Ref), api.ErrText},
		{n.Cancel != (n.Prev != ""), api.ErrText},
		{n.Cancel && !refForm.MatchString(n.Prev), api.ErrText},
		{min(n.Trade, n.Settle) < 1 || max(n.Trade, n.Settle) > lastDay, api.ErrDate},
		{n.Settle < n.Trade, api.ErrDate},
		{!rightCode(string(n.Code[:])), api.ErrForm},
		{n.Qty <= 0, api.ErrAmount},
		{!accountForm.MatchString(n.Account), api.ErrAccount},
		{!bicForm.MatchString(n.Agent), api.ErrForm},
		{!accountForm.MatchString(n.Other), api.ErrAccount},
		{n.Pay && n.Amount <= 0, api.ErrAmount},
		{n.Pay && !currencyForm.MatchString(n.Currency), api.ErrForm},
		{!n.Pay && n.Amount != 0, api.ErrArg},
		{!n.Pay && n.Currency != "", api.ErrArg},
		{n.Priority != n.Priority&0x3fff || n.Priority >= 10000, api.ErrArg},
		{len(n.Links) > 16, api.ErrMany},
	}
	for _, x := range n.Links {
		l = append(l, look{x.Kind != 1 && x.Kind != 2 && x.Kind != 3, api.ErrKind}, look{!refForm.MatchString(x.Ref), api.ErrText}, look{x.Ref == n.Ref, api.ErrSame})
	}
	for _, x := range l {
		if x.wrong {
			return x.no
		}
	}
	return api.OK
}

// rightCode tells whether a text is an ISIN: the digits from the last on, each second one doubled.
func rightCode(s string) bool {
	if !isinForm.MatchString(s) {
		return false
	}
	digits := ""
	for _, c := range strings.Split(s, "") {
		n, _ := strconv.ParseInt(c, 36, 0)
		digits += strconv.Itoa(int(n))
	}
	sum := 0
	for i := range digits {
		d := int(digits[len(digits)-1-i]-'0') << (i % 2)
		sum += d/10 + d%10
	}
	return sum%10 == 0
}

// A second reckoning of Write.

func field(tag, qual, text string) api.Item { return api.Item{Tag: tag, Qual: qual, Text: text} }

func block(name string, l ...api.Item) api.Item { return api.Item{Name: name, Items: l} }

// messageOf is the message that tells a notice, whatever Check says of it.
func messageOf(n api.Notice) []api.Item {
	function, kind, side := "NEWM", "540", "DEAG"
	switch {
	case n.Receive && n.Pay:
		kind = "541"
	case n.Pay:
		kind, side = "543", "REAG"
	case !n.Receive:
		kind, side = "542", "REAG"
	}
	if n.Cancel {
		function = "CANC"
	}
	general := []api.Item{field("20C", "SEME", n.Ref), field("23G", "", function), field("22F", "TYPE", kind)}
	if n.Cancel {
		general = append(general, field("20C", "PREV", n.Prev))
	}
	for _, x := range n.Links {
		word := map[int]string{1: "WITH", 2: "BEFO", 3: "AFTE"}[x.Kind]
		general = append(general, block("LINK", field("22F", "LINK", word), field("20C", "RELA", x.Ref)))
	}
	parties := []api.Item{block("SETPRTY", field("95P", side, n.Agent), field("97A", "SAFE", n.Other))}
	if n.Pay {
		parties = append(parties, block("AMT", field("19A", "SETT", fmt.Sprintf("%s%d,", n.Currency, n.Amount))))
	}
	return []api.Item{
		block("GENL", general...),
		block("TRADDET", field("98A", "TRAD", dateOf(n.Trade)), field("98A", "SETT", dateOf(n.Settle)),
			field("35B", "", "ISIN "+string(n.Code[:])), field("22F", "PRIR", fmt.Sprintf("%04d", n.Priority))),
		block("FIAC", field("36B", "SETT", fmt.Sprintf("UNIT/%d,", n.Qty)), field("97A", "SAFE", n.Account)),
		block("SETDET", parties...),
	}
}

func dateOf(day int) string {
	if day < 1 || day > lastDay {
		return "00000000"
	}
	return time.Date(1, 1, day, 0, 0, 0, 0, time.UTC).Format("20060102")
}

func dayOf(text string) int {
	at, err := time.Parse("20060102", text)
	if err != nil || at.Year() < 1 {
		return 0
	}
	return int((at.Unix()-time.Date(1, 1, 1, 0, 0, 0, 0, time.UTC).Unix())/86400) + 1
}

// A second reckoning of Read: the list as one text, held against one regular expression for each shape.

// flat is a list as a text in which all that an item has is quoted.
func flat(l []api.Item) string {
	var b strings.Builder
	for _, x := range l {
		fmt.Fprintf(&b, "(%q %q %q %q %s)", x.Tag, x.Qual, x.Name, x.Text, flat(x.Items))
	}
	return b.String()
}

const (
	skipped  = `"(?:[^"\\]|\\.)*"` // any text
	anything = `(` + skipped + `)` // one that is kept
)

func fieldForm(tag, qual, text string) string {
	return `\("` + tag + `" "` + qual + `" "" ` + text + ` \)`
}

func blockForm(name string, in ...string) string {
	return `\("" "" "` + name + `" "" ` + strings.Join(in, "") + `\)`
}

// shape is the form of a message of one type, a cancellation or not.
func shape(kind int, isCancel bool) *regexp.Regexp {
	function, prev, side, money := "NEWM", `()`, "DEAG", `()`
	if isCancel {
		function, prev = "CANC", fieldForm("20C", "PREV", anything)
	}
	if kind >= 542 {
		side = "REAG"
	}
	if kind%2 > 0 {
		money = blockForm("AMT", fieldForm("19A", "SETT", anything))
	}
	links := "((?:" + blockForm("LINK", fieldForm("22F", "LINK", `"(?:WITH|BEFO|AFTE)"`), fieldForm("20C", "RELA", skipped)) + ")*)"
	return regexp.MustCompile(`\A` +
		blockForm("GENL", fieldForm("20C", "SEME", anything), fieldForm("23G", "", `"`+function+`"`), fieldForm("22F", "TYPE", `"`+strconv.Itoa(kind)+`"`), prev, links) +
		blockForm("TRADDET", fieldForm("98A", "TRAD", `"([0-9]{8})"`), fieldForm("98A", "SETT", `"([0-9]{8})"`), fieldForm("35B", "", anything), fieldForm("22F", "PRIR", `"([0-9]{4})"`)) +
		blockForm("FIAC", fieldForm("36B", "SETT", `"UNIT/([0-9]{1,19}),"`), fieldForm("97A", "SAFE", anything)) +
		blockForm("SETDET", blockForm("SETPRTY", fieldForm("95P", side, anything), fieldForm("97A", "SAFE", anything)), money) + `\z`)
}

var (
	oneLink   = regexp.MustCompile(blockForm("LINK", fieldForm("22F", "LINK", `"(WITH|BEFO|AFTE)"`), fieldForm("20C", "RELA", anything)))
	moneyForm = regexp.MustCompile(`\A([0-9]{1,19}),\z`)
	shapes    = allShapes()
)

func allShapes() (out [8]*regexp.Regexp) {
	for i := range out {
		out[i] = shape(540+i%4, i >= 4)
	}
	return out
}

func unquoted(s string) string {
	out, err := strconv.Unquote(s)
	if err != nil {
		panic(err)
	}
	return out
}

func amountOf(digits string) int64 {
	n, _ := new(big.Int).SetString(digits, 10)
	if !n.IsInt64() {
		return 0
	}
	return n.Int64()
}

// toldBy is the notice that a list tells, if it has the shape of a message, and its texts their forms.
func toldBy(l []api.Item) (api.Notice, bool) {
	text := flat(l)
	for i, form := range shapes {
		if m := form.FindStringSubmatch(text); m != nil {
			n, ok := tells(m)
			n.Receive, n.Pay, n.Cancel = i%4 < 2, i%2 > 0, i >= 4
			return n, ok
		}
	}
	return api.Notice{}, false
}

// reckoned is what Read should answer.
func reckoned(l []api.Item) (api.Notice, api.Errno) {
	n, ok := toldBy(l)
	if !ok {
		return api.Notice{}, api.ErrForm
	}
	if no := judged(n); no != api.OK {
		return api.Notice{}, no
	}
	if flat(messageOf(n)) != flat(l) {
		return api.Notice{}, api.ErrForm
	}
	return n, api.OK
}

// tells is what the parts of a shape tell, and whether the two texts that no regular expression counts by bytes are of their form.
func tells(m []string) (api.Notice, bool) {
	var links []api.Link
	for _, x := range oneLink.FindAllStringSubmatch(m[3], -1) {
		links = append(links, api.Link{Kind: 1 + slices.Index([]string{"WITH", "BEFO", "AFTE"}, x[1]), Ref: unquoted(x[2])})
	}
	priority, _ := strconv.Atoi(m[7])
	n := api.Notice{
		Ref: unquoted(m[1]), Links: links, Trade: dayOf(m[4]), Settle: dayOf(m[5]), Priority: priority,
		Qty: amountOf(m[8]), Account: unquoted(m[9]), Agent: unquoted(m[10]), Other: unquoted(m[11]),
	}
	if m[2] != "" {
		n.Prev = unquoted(m[2])
	}
	code := unquoted(m[6])
	if len(code) != 17 || code[:5] != "ISIN " {
		return n, false
	}
	n.Code = isin(code[5:])
	if m[12] == "" {
		return n, true
	}
	money := unquoted(m[12])
	if len(money) < 3 || !moneyForm.MatchString(money[3:]) {
		return n, false
	}
	n.Currency, n.Amount = money[:3], amountOf(money[3:len(money)-1])
	return n, true
}

// Notices of any make.

type dice struct{ proof.Dice }

func roll(seed uint64) *dice { return &dice{proof.Dice(seed)} }

func pick[T any](d *dice, l ...T) T { return proof.Of(&d.Dice, l...) }

func (d *dice) yes() bool { return d.Below(2) > 0 }

// ref is a reference.
func (d *dice) ref() string { return d.Text(pick(d, 1, 1, 2, 7, 16), signs) }

// code is an ISIN.
func (d *dice) code() api.Isin {
	head := d.Text(2, signs[10:]) + d.Text(9, signs)
	digit, err := codes.IsinDigit(head)
	if err != nil {
		panic(err)
	}
	return isin(head + string(digit))
}

func (d *dice) amount() int64 {
	return pick[int64](d, 1, 2, 9, 10, 100, api.MaxAmount, api.MaxAmount-1, 1+int64(d.Next()>>1)%api.MaxAmount, 1+int64(d.Below(100000)))
}

// notice is a right one.
func (d *dice) notice() api.Notice {
	trade := pick(d, 1, lastDay, 1+d.Below(lastDay), 738887)
	settle := pick(d, trade, min(trade+1, lastDay), lastDay, trade+d.Below(lastDay-trade+1))
	n := api.Notice{
		Ref: d.ref(), Receive: d.yes(), Trade: trade, Settle: settle, Code: d.code(), Qty: d.amount(),
		Account: d.Text(1+d.Below(34), signs), Agent: d.Text(6, signs[10:]) + d.Text(pick(d, 2, 5), signs), Other: d.Text(1+d.Below(34), signs),
		Priority: pick(d, 0, 9999, d.Below(10000)),
	}
	if d.yes() {
		n.Cancel, n.Prev = true, d.ref()
	}
	if d.yes() {
		n.Pay, n.Amount, n.Currency = true, d.amount(), d.Text(3, signs[10:])
	}
	for range pick(d, 0, 0, 1, 2, d.Below(17), 16) {
		link := api.Link{Kind: 1 + d.Below(3), Ref: d.ref()}
		if link.Ref != n.Ref {
			n.Links = append(n.Links, link)
		}
	}
	return n
}

// text is any text, often one that is nearly right.
func (d *dice) text() string {
	return pick(d, "", "A", "a", "A1", "A1\n", " ", "\"", "\\", "\x00", "\x80", "É", d.Text(d.Below(40), signs), d.Text(3, signs[10:]), d.Text(16, signs), d.Text(17, signs), "DEUTDEFF", "DEUTDEFF5", "DEUTDEFFXXX")
}

// spoilt is a notice in which one thing has become another, wrong or not.
func (d *dice) spoilt(n api.Notice) api.Notice {
	n.Links = slices.Clone(n.Links)
	switch d.Below(17) {
	case 0:
		n.Ref = d.text()
	case 1:
		n.Prev = d.text()
	case 2:
		n.Cancel = !n.Cancel
	case 3:
		n.Pay = !n.Pay
	case 4:
		n.Trade = pick(d, -1, 0, 1, lastDay, lastDay+1, n.Settle, n.Settle+1, -1<<63, 1<<63-1)
	case 5:
		n.Settle = pick(d, -1, 0, 1, lastDay, lastDay+1, n.Trade, n.Trade-1, -1<<63, 1<<63-1)
	case 6:
		n.Code[d.Below(12)] = byte(d.Below(256))
	case 7:
		n.Qty = pick[int64](d, -1, 0, 1, -1<<63, api.MaxAmount)
	case 8:
		n.Account = d.text()
	case 9:
		n.Agent = d.text()
	case 10:
		n.Other = d.text()
	case 11:
		n.Amount = pick[int64](d, -1, 0, 1, -1<<63, api.MaxAmount)
	case 12:
		n.Currency = d.text()
	case 13:
		n.Priority = pick(d, -1, 0, 9999, 10000, -1<<63, 1<<63-1)
	default:
		link := api.Link{Kind: pick(d, -1, 0, 1, 2, 3, 4, -1<<63, 1<<63-1), Ref: pick(d, d.text(), n.Ref, d.ref())}
		for range pick(d, 1, 2, 17) {
			n.Links = slices.Insert(n.Links, d.Below(len(n.Links)+1), link)
		}
	}
	return n
}

// junk is what spare room is filled with.
var junk = []api.Link{{Kind: 9, Ref: "junk"}, {Kind: 8, Ref: "junk"}}

// roomy is a copy of a list with spare room behind it that is filled with junk.
func roomy(l []api.Link) []api.Link { return slices.Concat(l, junk)[:len(l)] }

// untouched tells whether the spare room of a list is as roomy left it.
func untouched(l []api.Link) bool { return slices.Equal(l[len(l):len(l)+len(junk)], junk) }

func printed(t *testing.T, l []api.Item) string {
	t.Helper()
	s, err := tags.Print(l)
	if err != nil {
		t.Fatalf("Print(%q) is %v", l, err)
	}
	return s
}

// writes checks Check, Write and Text of a notice against the second reckoning, that they change nothing, and what P7.5 and P7.7 promise of it.
func writes(t *testing.T, n api.Notice) {
	t.Helper()
	no := judged(n)
	want := messageOf(n)
	if no != api.OK {
		want = nil
	}
	given := n
	given.Links = roomy(n.Links)
	err := notice.Check(given)
	l, err2 := notice.Write(given)
	s, err3 := notice.Text(given)
	if !proof.Tells(err, no) || !proof.Tells(err2, no) || !proof.Tells(err3, no) {
		t.Errorf("Check, Write, Text(%+v) are %v, %v, %v (%+v); want %v", n, err, err2, err3, err, no)
		return
	}
	proof.Overrun(l)
	if !proof.SameItems(l, want) || len(want) == 0 && l != nil {
		t.Errorf("Write(%+v) is %q; want %q", n, l, want)
	}
	if !proof.SameNotice(given, n) || !untouched(given.Links) {
		t.Errorf("Check, Write or Text changes %+v", n)
	}
	if s != printed(t, want) {
		t.Errorf("Text(%+v) is %q; want %q", n, s, printed(t, want))
	}
	if no != api.OK {
		return
	}
	if got, err := notice.Read(l); err != nil || !proof.SameNotice(got, n) {
		t.Errorf("Read(Write(%+v)) is %+v, %v", n, got, err)
	}
	if got, err := notice.Of(s); err != nil || !proof.SameNotice(got, n) {
		t.Errorf("Of(Text(%+v)) is %+v, %v", n, got, err)
	}
}
