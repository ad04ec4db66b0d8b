package tags_test

import (
	"regexp"
	"strings"
	"testing"

	"custody/api"
	"custody/proof"
	"custody/tags"
)

// A second reckoning of Print: what is wrong with an item by regular expressions.

var (
	tagForm  = regexp.MustCompile(`^[0-9][0-9][A-Z]?$`)
	qualForm = regexp.MustCompile(`^([A-Z0-9]{4})?$`)
	nameForm = regexp.MustCompile(`^[A-Z0-9]{1,16}$`)
	textForm = regexp.MustCompile(`^[^\n]*(\n[^\n:\-][^\n]*)*$`)
)

// written is what Print should answer for a list in so many blocks, whatever its length.
func written(l []api.Item, depth int) (string, api.Errno) {
	out := ""
	for _, x := range l {
		if no := amiss(x, depth); no != api.OK {
			return "", no
		}
		switch {
		case x.Tag == "":
			in, no := written(x.Items, depth+1)
			if no != api.OK {
				return "", no
			}
			out += ":16R:" + x.Name + "\n" + in + ":16S:" + x.Name + "\n"
		case x.Qual == "":
			out += ":" + x.Tag + ":" + x.Text + "\n"
		default:
			out += ":" + x.Tag + "::" + x.Qual + "//" + x.Text + "\n"
		}
	}
	return out, api.OK
}

// amiss is the error of an item itself.
func amiss(x api.Item, depth int) api.Errno {
	switch {
	case x.Tag == "" && x.Name == "":
		return api.ErrKind
	case x.Tag == "" && depth >= 8:
		return api.ErrMany
	case x.Tag == "" && (!nameForm.MatchString(x.Name) || x.Qual+x.Text != ""):
		return api.ErrForm
	case x.Tag == "":
		return api.OK
	case !tagForm.MatchString(x.Tag) || x.Tag == "16R" || x.Tag == "16S" || !qualForm.MatchString(x.Qual) || x.Name != "" || len(x.Items) > 0:
		return api.ErrForm
	case firstByte(strings.ReplaceAll(x.Text, "\n", "")) > 0:
		return api.ErrText
	case !textForm.MatchString(x.Text) || x.Qual == "" && strings.HasPrefix(x.Text, ":"):
		return api.ErrForm
	}
	return api.OK
}

// prints checks what Print answers against the second reckoning, that it changes nothing, and that the text is read as the list.
func prints(t *testing.T, l []api.Item) {
	t.Helper()
	want, no := written(l, 0)
	given := proof.Roomy(l)
	s, err := tags.Print(given)
	if s != want || !tells(err, no, nowhere) {
		t.Errorf("Print(%q) is %q, %v (%+v); want %q, %v", l, s, err, err, want, no)
		return
	}
	if !proof.SameItems(given, l) || !proof.Untouched(given) {
		t.Errorf("Print(%q) changes its items", l)
	}
	if err != nil {
		return
	}
	if got, err := tags.Parse(s); err != nil || !proof.SameItems(got, l) {
		t.Errorf("Parse(Print(%q)) is %q, %v", l, got, err)
	}
}

// writes checks that items have this text.
func writes(t *testing.T, want string, l ...api.Item) {
	t.Helper()
	if s, err := tags.Print(l); err != nil || s != want {
		t.Errorf("Print(%q) is %q, %v; want %q", l, s, err, want)
	}
	prints(t, l)
}

// refused checks that items have this error, with no place, and nothing beside it.
func refused(t *testing.T, no api.Errno, l ...api.Item) {
	t.Helper()
	if s, err := tags.Print(l); s != "" || !tells(err, no, nowhere) {
		t.Errorf("Print(%q) is %q, %v (%+v); want %v", l, s, err, err, no)
	}
	prints(t, l)
}

// P6.2

func TestPrintExamples(t *testing.T) {
	writes(t, exampleText, example()...)
	refused(t, api.ErrForm, field("20C", "", ":A"))
	writes(t, ends(":20C::SEME//:A"), field("20C", "SEME", ":A"))
	refused(t, api.ErrKind, api.Item{})
	refused(t, api.ErrForm, api.Item{Tag: "20C", Name: "A"})
	refused(t, api.ErrForm, api.Item{Name: "A", Text: "x"})
	refused(t, api.ErrForm, api.Item{Tag: "16R"})
	refused(t, api.ErrForm, field("20C", "", "a\n\nb"))
	refused(t, api.ErrForm, field("20C", "", "a\n"))
	refused(t, api.ErrForm, field("20C", "", "a\n:b"))
	writes(t, ends(":20C:", "b"), field("20C", "", "\nb"))
}

func TestPrintOfNothing(t *testing.T) {
	for _, none := range [][]api.Item{nil, {}, make([]api.Item, 0, 4)} {
		writes(t, "", none...)
		writes(t, ends(":16R:A", ":16S:A"), api.Item{Name: "A", Items: none})
		writes(t, ends(":20C:A"), api.Item{Tag: "20C", Text: "A", Items: none})
		refused(t, api.ErrKind, api.Item{Items: none})
	}
}

func TestPrintOfTags(t *testing.T) {
	for _, tag := range []string{"00", "16", "20", "99", "20A", "20Z", "16A", "16Q", "16T", "15R", "17S", "61R"} {
		writes(t, ends(":"+tag+":A"), field(tag, "", "A"))
		writes(t, ends(":"+tag+"::SEME//A"), field(tag, "SEME", "A"))
	}
	for _, no := range []string{"16R", "16S", "2", "C", "200", "2C", "20CC", "C20", "20c", "16r", "20 ", " 20", ":20", "20:", "20\n", "2\n", "20C\n", "\n", "\x00\x00", "20\x80", "é0"} {
		for _, qual := range []string{"", "SEME"} {
			refused(t, api.ErrForm, field(no, qual, "A"))
			refused(t, api.ErrForm, field(no, qual, "_"))
		}
	}
}

func TestPrintOfQualifiers(t *testing.T) {
	for _, qual := range []string{"SEME", "0000", "9999", "AAAA", "ZZZZ", "A0Z9"} {
		for _, text := range []string{"", "A", "/", "//", ":", "::", "-", " ", "A\nB"} {
			writes(t, ":20C::"+qual+"//"+text+"\n", field("20C", qual, text))
		}
	}
	for _, no := range []string{"S", "SEM", "SEMES", "seme", "SEMe", "SEM ", "SEM/", "S:ME", "SEM\n", "\nEME", "SEME\n", "SEM\x80", "ÄÄ", "    ", "////"} {
		refused(t, api.ErrForm, field("20C", no, "A"))
		refused(t, api.ErrForm, field("20C", no, "_"))
	}
}

func TestPrintOfNames(t *testing.T) {
	for _, name := range []string{"A", "Z", "0", "9", "AB", "ABCDEFGHIJKLMNO", "ABCDEFGHIJKLMNOP", "0123456789012345"} {
		writes(t, ends(":16R:"+name, ":16S:"+name), block(name))
	}
	for _, no := range []string{"a", "Aa", "A ", " A", "A-", ":", "A:", "A\n", "\n", "\x00", "\x80", "ABCDEFGHIJKLMNOPQ", "ABCDEFGHIJKLMNOPQRSTUVWXYZ"} {
		refused(t, api.ErrForm, block(no))
		refused(t, api.ErrForm, block(no, field("20C", "", "_"))) // a block ahead of its items
		refused(t, api.ErrForm, block("A", block(no)))
	}
	for _, more := range []api.Item{{Name: "A", Qual: "SEME"}, {Name: "A", Qual: "x"}, {Name: "A", Text: "A"}, {Name: "A", Text: "_"}, {Name: "A", Text: "\n"}} {
		more.Items = items(api.Item{})
		refused(t, api.ErrForm, more)
		more.Items = nil
		refused(t, api.ErrForm, more)
	}
}

func TestPrintOfTexts(t *testing.T) {
	for _, text := range []string{"", "A", " ", "-", "-A", "A:", "A:B", "/", "\nA", "A\nB", "A\nB:", "A\n B-", "A\n/\n?\n(\n)\n.\n,\n'\n+", "-\n0", "\n \n "} {
		writes(t, ":20C:"+text+"\n", field("20C", "", text))
		writes(t, ":20C::SEME//"+text+"\n", field("20C", "SEME", text))
	}
	for _, text := range []string{":", ":A", "::", ":\nA", ":SEME//A"} {
		refused(t, api.ErrForm, field("20C", "", text))
		writes(t, ":20C::SEME//"+text+"\n", field("20C", "SEME", text))
	}
	for _, no := range []string{"\n", "A\n", "\n\n", "\n\nA", "A\n\nB", "A\nB\n", "A\n:", "A\n:B", "A\n-", "A\n-B", "\n-", "\n:", "A\nB\n-C", "A\nB\n\nC", "A\n:20C:B"} {
		refused(t, api.ErrForm, field("20C", "", no))
		refused(t, api.ErrForm, field("20C", "SEME", no))
	}
	for b := range 256 {
		c := string([]byte{byte(b)})
		for _, text := range []string{c, c + "A", "A" + c, "A" + c + "B", "A\n" + c, "A\nB" + c, "A" + c + "\nB", "A" + c + "\n", ":" + c, "\n\n" + c, "A\n-" + c} {
			for _, qual := range []string{"", "SEME"} {
				prints(t, items(field("20C", qual, text)))
			}
			if c != "\n" && !strings.Contains(set, c) {
				refused(t, api.ErrText, field("20C", "", text)) // ahead of all else that is wrong with a text
			}
		}
	}
}

func TestPrintOfEachByte(t *testing.T) {
	for b := range 256 {
		c := string([]byte{byte(b)})
		for _, x := range []api.Item{
			field(c+"0C", "", ""), field("2"+c+"C", "", ""), field("2"+c, "", ""), field("20"+c, "", ""), field("20C"+c, "", ""), field(c, "", ""),
			field("20C", c+"EME", ""), field("20C", "S"+c+"ME", ""), field("20C", "SE"+c+"E", ""), field("20C", "SEM"+c, ""), field("20C", "SEME"+c, ""), field("20C", c, ""),
			block(c), block(c + "A"), block("A" + c), block("A" + c + "B"), block("ABCDEFGHIJKLMNO" + c), block("ABCDEFGHIJKLMNOP" + c),
		} {
			prints(t, items(x))
			prints(t, items(block("A", x)))
		}
	}
}

// TestPrintOrder: items that are wrong in two things, and lists of which two items are.
func TestPrintOrder(t *testing.T) {
	kind, form, text := api.Item{}, api.Item{Tag: "20c"}, field("20C", "", "_")
	many := deep(9)[0]
	for _, x := range []struct {
		no api.Errno
		l  []api.Item
	}{
		{api.ErrKind, items(api.Item{Qual: "x", Text: "_"})},
		{api.ErrKind, items(api.Item{Items: items(form)})},
		{api.ErrForm, items(api.Item{Tag: "20c", Text: "_"})},
		{api.ErrForm, items(api.Item{Tag: "20C", Qual: "x", Text: "_"})},
		{api.ErrForm, items(api.Item{Tag: "20C", Name: "A", Text: "_"})},
		{api.ErrForm, items(api.Item{Tag: "20C", Text: "_", Items: items(kind)})},
		{api.ErrForm, items(api.Item{Tag: "20C", Items: items(field("20C", "", "A"))})},
		{api.ErrText, items(field("20C", "", ":_"))},
		{api.ErrText, items(field("20C", "", "\n_"))},
		{api.ErrText, items(field("20C", "", "A\n\n_"))},
		{api.ErrText, items(field("20C", "", "_\n"))},
		{api.ErrForm, items(api.Item{Name: "a", Items: items(kind)})},
		{api.ErrForm, items(api.Item{Name: "A", Qual: "x", Items: items(text)})},
		{api.ErrMany, deep(8, api.Item{Name: "a"})},
		{api.ErrMany, deep(8, api.Item{Name: "A", Text: "_"})},
		{api.ErrMany, deep(8, api.Item{Name: "A", Items: items(kind)})},
		{api.ErrMany, deep(9, kind)},
		{api.ErrMany, deep(20, text)},
		{api.ErrKind, deep(8, kind)},
		{api.ErrForm, deep(8, form)},
		{api.ErrText, deep(8, text)},
		{api.ErrForm, deep(7, block("a"))},
		{api.ErrKind, items(block("A", kind), text)}, // of two items the one that would be written first
		{api.ErrText, items(block("A", text), kind)},
	} {
		refused(t, x.no, x.l...)
	}
	wrong := map[api.Errno]api.Item{api.ErrKind: kind, api.ErrForm: form, api.ErrText: text, api.ErrMany: many}
	good := field("20C", "", "A")
	for no, x := range wrong {
		for _, y := range wrong {
			refused(t, no, x, y)
			refused(t, no, good, x, y)
			refused(t, no, block("A", good), x, block("A", y))
			if no != api.ErrMany {
				refused(t, no, block("A", good, x), y)
				refused(t, no, block("A", block("B", good, x), y), y)
			}
		}
	}
}

func TestPrintOfBlocks(t *testing.T) {
	for n := range 9 {
		head, tail := strings.Repeat(":16R:A\n", n), strings.Repeat(":16S:A\n", n)
		writes(t, head+tail, deep(n)...)
		writes(t, head+":20C:A\n"+tail+":20C:B\n", append(deep(n, field("20C", "", "A")), field("20C", "", "B"))...)
	}
	for _, n := range []int{9, 10, 30} {
		refused(t, api.ErrMany, deep(n)...)
	}
	refused(t, api.ErrMany, append(deep(8), deep(9)...)...)
	if s, err := tags.Print(deep(1 << 16)); s != "" || !tells(err, api.ErrMany, nowhere) {
		t.Errorf("Print of 65536 blocks in one another is %.20q, %v", s, err)
	}
	writes(t, ends(":16R:A", ":16R:B", ":16S:B", ":20C:A", ":16S:A", ":16R:B", ":16S:B"), block("A", block("B"), field("20C", "", "A")), block("B"))
}

func TestPrintOfAnyItems(t *testing.T) {
	d := roll(63)
	for range 4000 {
		prints(t, d.message(5, 5))
		prints(t, d.anyItems(4, 4))
		l := d.message(4, 4)
		prints(t, append(l, d.wrongItem()))
		prints(t, append(items(block("A", append(l, d.wrongItem())...)), d.wrongItem()))
	}
}

// wrongItem is an item that is most likely wrong, in one thing or in more.
func (d *dice) wrongItem() api.Item {
	x := d.field()
	if d.Below(3) == 0 {
		x = block(d.name(), d.message(2, 1)...)
	}
	for range 1 + d.Below(3) {
		switch d.Below(8) {
		case 0:
			x.Tag = pick(d, "", "16R", "16S", "2", "20CC", "20c")
		case 1:
			x.Qual = pick(d, "", "SEME", "SEM", "SEMES", "seme")
		case 2:
			x.Text = pick(d, "", ":", "-", "_", "\n", "A\n", "A\n\nB", "A\n-", ":\xff")
		case 3:
			x.Name = pick(d, "", "A", "a", "ABCDEFGHIJKLMNOPQ")
		case 4:
			x.Items = d.message(2, 1)
		case 5:
			x.Items = items(d.wrongItem())
		case 6:
			x.Text += string([]byte{byte(d.Next())})
		case 7:
			x = block("A", x)
		}
	}
	return x
}

func TestPrintOfTooMuch(t *testing.T) {
	for _, text := range longest() {
		l := parse(t, text)
		if s := printed(t, l); s != text {
			t.Errorf("%.20q and so on: what is printed has %d bytes", text, len(s))
		}
		tooLong(t, api.ErrMany, append(l, field("20", "", ""))...)
		tooLong(t, api.ErrMany, append(items(block("A")), l...)...)
		longer := l[len(l)-1]
		if longer.Tag != "" {
			longer.Text += "A"
			tooLong(t, api.ErrMany, append(l[:len(l)-1:len(l)-1], longer)...)
		}
		// An item that is wrong is told ahead of the length.
		tooLong(t, api.ErrKind, append(l, api.Item{})...)
		tooLong(t, api.ErrKind, append(l, field("20", "", "A"), api.Item{})...)
		tooLong(t, api.ErrText, append(l, field("20", "", "_"))...)
		tooLong(t, api.ErrForm, append(l, field("20c", "", "_"))...)
		tooLong(t, api.ErrText, append(l, field("20", "", strings.Repeat("A", api.MaxText)), block("A", field("20", "", "_")))...)
	}
	for n := api.MaxText - 7; n < api.MaxText+3; n++ { // a field of 6 bytes and its text
		no := api.OK
		if n+6 > api.MaxText {
			no = api.ErrMany
		}
		tooLong(t, no, field("20C", "", strings.Repeat("A", n)))
	}
	piece := strings.Repeat("A", 1000)
	var l []api.Item
	for range 5000 {
		l = append(l, field("20C", "SEME", piece))
	}
	tooLong(t, api.ErrMany, l...)
	tooLong(t, api.ErrMany, deep(8, l...)...)
	tooLong(t, api.ErrMany, deep(9, l...)...)
	tooLong(t, api.ErrKind, append(l, api.Item{})...)
}

// tooLong checks the error of a list that is long, and that nothing is answered beside it.
func tooLong(t *testing.T, no api.Errno, l ...api.Item) {
	t.Helper()
	if s, err := tags.Print(l); !tells(err, no, nowhere) || err != nil && s != "" {
		t.Errorf("Print of %d items is %d bytes, %v (%+v); want %v", len(l), len(s), err, err, no)
	}
}

func TestPrintIsNewMemory(t *testing.T) {
	d := roll(64)
	for range 300 {
		l := d.message(5, 3)
		if s := printed(t, l); shares([]string{s}, texts(l)) || shares(texts(l), []string{s}) {
			t.Fatalf("Print(%q) shares memory", l)
		}
	}
}
