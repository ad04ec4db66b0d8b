package tags_test

import (
	"regexp"
	"strings"
	"testing"

	"custody/api"
	"custody/proof"
	"custody/tags"
)

// A second reckoning of Parse, without recursion: a heap of open blocks, and forms by regular expressions.

var (
	offSet   = regexp.MustCompile(`[^A-Za-z0-9 /\-?:().,'+]`)
	hasTag   = regexp.MustCompile(`^:([^:]*):`)
	begins   = regexp.MustCompile(`^:16R:([A-Z0-9]{1,16})$`)
	plain    = regexp.MustCompile(`^:([0-9]{2}[A-Z]?):([^:].*)?$`)
	tagged   = regexp.MustCompile(`^:([0-9]{2}[A-Z]?):`)
	withQual = regexp.MustCompile(`^:([0-9]{2}[A-Z]?)::([A-Z0-9]{4})//(.*)$`)
)

// heap are the lists of the open blocks, with their names, the outermost first.
type heap struct {
	names []string
	lists [][]api.Item
	field bool // what was read last is a line of a field
}

func (h *heap) top() *[]api.Item { return &h.lists[len(h.lists)-1] }

func (h *heap) begin(name string) {
	h.names, h.lists, h.field = append(h.names, name), append(h.lists, nil), false
}

func (h *heap) end() {
	last := len(h.names) - 1
	done := api.Item{Name: h.names[last], Items: *h.top()}
	h.names, h.lists, h.field = h.names[:last], h.lists[:last+1], false
	*h.top() = append(*h.top(), done)
}

func (h *heap) put(l []string) {
	h.field = true
	if len(l) == 3 {
		*h.top() = append(*h.top(), field(l[1], "", l[2]))
		return
	}
	*h.top() = append(*h.top(), field(l[1], l[2], l[3]))
}

// line reads one, and is the error with its byte.
func (h *heap) line(s string) (api.Errno, int) {
	if !strings.HasSuffix(s, "\n") {
		return api.ErrShort, len(s) + 1
	}
	s = strings.TrimSuffix(s, "\n")
	if off := firstByte(s); off > 0 {
		return api.ErrText, off
	}
	if s == "" || s[0] == '-' || s[0] != ':' && !h.field {
		return api.ErrForm, 1
	}
	if s[0] != ':' {
		l := *h.top()
		l[len(l)-1].Text += "\n" + s
		return api.OK, 0
	}
	m := hasTag.FindStringSubmatch(s)
	switch {
	case m == nil:
		return api.ErrForm, len(s) + 1
	case m[1] == "16R":
		return h.opens(s)
	case m[1] == "16S":
		return h.closes(s)
	case !tagged.MatchString(s):
		return api.ErrForm, 2
	}
	for _, form := range []*regexp.Regexp{plain, withQual} {
		if l := form.FindStringSubmatch(s); l != nil {
			h.put(l)
			return api.OK, 0
		}
	}
	return api.ErrForm, len(m[0]) + 2
}

// firstByte is the place, from 1 on, of the first byte that is not of the set; 0, if all are. (A regular expression would take bytes that are no UTF-8 for longer ones.)
func firstByte(s string) int {
	for i := range len(s) {
		if s[i] >= 0x80 || offSet.MatchString(s[i:i+1]) {
			return i + 1
		}
	}
	return 0
}

func (h *heap) opens(s string) (api.Errno, int) {
	if len(h.names) == 8 {
		return api.ErrMany, 1
	}
	m := begins.FindStringSubmatch(s)
	if m == nil {
		return api.ErrForm, 6
	}
	h.begin(m[1])
	return api.OK, 0
}

func (h *heap) closes(s string) (api.Errno, int) {
	if len(h.names) == 0 {
		return api.ErrLost, 1
	}
	if s != ":16S:"+h.names[len(h.names)-1] {
		return api.ErrForm, 6
	}
	h.end()
	return api.OK, 0
}

// reckoned is what Parse should answer for a text that isn't too long: the list, or the error with its place.
func reckoned(text string) ([]api.Item, api.Fault) {
	h := &heap{lists: [][]api.Item{nil}}
	number := 0
	for s := range strings.SplitAfterSeq(text, "\n") {
		if s == "" { // behind the last end, and of the empty text
			continue
		}
		number++
		if no, at := h.line(s); no != api.OK {
			return nil, api.Fault{No: no, Line: number, At: at}
		}
	}
	if len(h.names) > 0 {
		return nil, api.Fault{No: api.ErrShort, Line: number + 1, At: 1}
	}
	return *h.top(), api.Fault{}
}

// parses checks what Parse answers for a text against the second reckoning, and the laws of one text.
func parses(t *testing.T, text string) {
	t.Helper()
	want, place := reckoned(text)
	l, err := tags.Parse(text)
	if !proof.SameItems(l, want) || !tells(err, place.No, [2]int{place.Line, place.At}) {
		t.Errorf("Parse(%.300q) is %q, %v (%+v); want %q, %+v", text, l, err, err, want, place)
		return
	}
	if err == nil {
		if s, err := tags.Print(l); err != nil || s != text {
			t.Errorf("Print(Parse(%.300q)) is %.300q, %v", text, s, err)
		}
		return
	}
	startsRight(t, text, place.Line)
}

// reads checks that a text is read as these items.
func reads(t *testing.T, text string, want ...api.Item) {
	t.Helper()
	if l, err := tags.Parse(text); err != nil || !proof.SameItems(l, want) {
		t.Errorf("Parse(%.300q) is %q, %v (%+v); want %q", text, l, err, err, want)
	}
	parses(t, text)
}

// faulty checks that a text has this error, at this line and byte, and that nothing is answered beside it.
func faulty(t *testing.T, text string, no api.Errno, line, at int) {
	t.Helper()
	if l, err := tags.Parse(text); !tells(err, no, [2]int{line, at}) || len(l) != 0 {
		t.Errorf("Parse(%.300q) is %q, %v (%+v); want %v %d %d", text, l, err, err, no, line, at)
	}
	parses(t, text)
}

// P6.1

const exampleText = ":16R:GENL\n:20C::SEME//REF1\n:23G:NEWM\n:16S:GENL\n:70E::SPRO//one\ntwo\n"

func example() []api.Item {
	return items(block("GENL", field("20C", "SEME", "REF1"), field("23G", "", "NEWM")), field("70E", "SPRO", "one\ntwo"))
}

func TestParseExamples(t *testing.T) {
	reads(t, exampleText, example()...)
	reads(t, "")
	reads(t, ends(":20C::SEME//"), field("20C", "SEME", ""))
	faulty(t, ":20C::SEME//A", api.ErrShort, 1, 14)
	faulty(t, ends(":20C::SEME/A"), api.ErrForm, 1, 7)
	faulty(t, ends(":20C::seme//A"), api.ErrForm, 1, 7)
	faulty(t, ends(":20C::SEM"), api.ErrForm, 1, 7)
	faulty(t, ends(":2C:A"), api.ErrForm, 1, 2)
	faulty(t, ends(":20c:A"), api.ErrForm, 1, 2)
	faulty(t, ends(":20C"), api.ErrForm, 1, 5)
	faulty(t, ends("::A"), api.ErrForm, 1, 2)
	faulty(t, ends("A"), api.ErrForm, 1, 1)
	faulty(t, ends(""), api.ErrForm, 1, 1)
	faulty(t, ends(":20C:A", "-B"), api.ErrForm, 2, 1)
	faulty(t, ends(":20C:A_B"), api.ErrText, 1, 7)
	faulty(t, ends(":16R:A", ":16S:B"), api.ErrForm, 2, 6)
	faulty(t, ends(":16S:A"), api.ErrLost, 1, 1)
	faulty(t, ends(":16R:A"), api.ErrShort, 2, 1)
	faulty(t, ends(":16R:"), api.ErrForm, 1, 6)
	faulty(t, ends(":16R:A", "B"), api.ErrForm, 2, 1)
	faulty(t, strings.Repeat(":16R:A\n", 9), api.ErrMany, 9, 1)
	faulty(t, ends(":20C:A", "-\x80"), api.ErrText, 2, 2)
}

func TestParseOfTags(t *testing.T) {
	for _, tag := range []string{"00", "16", "20", "99", "20A", "20Z", "16A", "16Q", "16T", "15R", "17S", "61R", "61S", "00A"} {
		reads(t, ends(":"+tag+":A"), field(tag, "", "A"))
		reads(t, ends(":"+tag+"::SEME//A"), field(tag, "SEME", "A"))
	}
	for _, no := range []string{"", "2", "C", "200", "2C", "20CC", "C20", "2C0", "20c", "16r", "16s", "16RR", "016R", "16SA", "20 ", " 20", "2-", "/0", "20/", "20'", "-1", "+1"} {
		for _, rest := range []string{"", "A", ":SEME//A", ":SEM"} {
			faulty(t, ends(":"+no+":"+rest), api.ErrForm, 1, 2)
		}
	}
	for _, one := range []string{":", ":2", ":20", ":20C", ":16R", ":16S", ":16RA", ":SEME//A"} {
		faulty(t, ends(one), api.ErrForm, 1, len(one)+1)
	}
}

func TestParseOfQualifiers(t *testing.T) {
	for _, qual := range []string{"SEME", "0000", "9999", "AAAA", "ZZZZ", "A0Z9"} {
		for _, text := range []string{"", "A", "/", "//", "/A", ":", "::", "-", " ", "//A//", ":B:"} {
			reads(t, ends(":20C::"+qual+"//"+text), field("20C", qual, text))
			reads(t, ends(":20::"+qual+"//"+text), field("20", qual, text))
		}
	}
	for _, no := range []string{"", "S", "SEM", "SEM/", "SEMES", "seme", "SEMe", " EME", "SEM ", "SE-E", ":EME", "S:ME", "SEM:"} {
		for _, rest := range []string{"//", "//A", "//A//B", "///"} {
			faulty(t, ends(":20C::"+no+rest), api.ErrForm, 1, 7)
			faulty(t, ends(":20::"+no+rest), api.ErrForm, 1, 6)
		}
	}
	for _, no := range []string{"", "SEME", "SEME/", "SEME/A", "SEME/ /", "SEMEA//", "SEME:", "/SEME//"} {
		faulty(t, ends(":20C::"+no), api.ErrForm, 1, 7)
		faulty(t, ends(":20C:A", ":20::"+no), api.ErrForm, 2, 6)
	}
}

func TestParseOfNames(t *testing.T) {
	for _, name := range []string{"A", "Z", "0", "9", "AB", "ABCDEFGHIJKLMNO", "ABCDEFGHIJKLMNOP", "0123456789012345"} {
		reads(t, ends(":16R:"+name, ":16S:"+name), block(name))
		faulty(t, ends(":16R:"+name, ":16S:"+name+"A"), api.ErrForm, 2, 6)
		faulty(t, ends(":16R:"+name, ":16S:"+name[1:]), api.ErrForm, 2, 6)
		faulty(t, ends(":16R:"+name, ":16S:"+strings.ToLower(name)+" "), api.ErrForm, 2, 6)
	}
	for _, no := range []string{"", "a", "Aa", "A ", " A", "A-", ":", ":A", "A:", "/", "ABCDEFGHIJKLMNOPQ", "ABCDEFGHIJKLMNOPQRSTUVWXYZ"} {
		faulty(t, ends(":16R:"+no, ":16S:"+no), api.ErrForm, 1, 6)
		faulty(t, ends(":16R:A", ":16R:"+no), api.ErrForm, 2, 6)
	}
	for _, no := range []string{"", "a", "AA", "B", ":A", "A "} {
		faulty(t, ends(":16R:A", ":20C:A", ":16S:"+no), api.ErrForm, 3, 6)
	}
}

func TestParseOfTextsOfSeveralLines(t *testing.T) {
	for _, head := range []string{":20C:", ":20C::SEME//", ":20:", ":20::SEME//"} {
		tag, rest, _ := strings.Cut(head[1:], ":")
		qual := strings.Trim(rest, ":/")
		for _, first := range []string{"", "-", "-A", "A", " ", "/", "A:B", "16R"} {
			reads(t, ends(head+first), field(tag, qual, first))
			reads(t, ends(head+first, "B"), field(tag, qual, first+"\nB"))
			reads(t, ends(head+first, "B", " ", "C:D-", "16S:", "A"), field(tag, qual, first+"\nB\n \nC:D-\n16S:\nA"))
			reads(t, ends(head+first, "B", head+first, "C"), field(tag, qual, first+"\nB"), field(tag, qual, first+"\nC"))
			reads(t, ends(":16R:A", head+first, "B", ":16S:A", head), block("A", field(tag, qual, first+"\nB")), field(tag, qual, ""))
			faulty(t, ends(head+first, ""), api.ErrForm, 2, 1)
			faulty(t, ends(head+first, "", "B"), api.ErrForm, 2, 1)
			faulty(t, ends(head+first, "B", "", "C"), api.ErrForm, 3, 1)
			faulty(t, ends(head+first, "B", "-"), api.ErrForm, 3, 1)
			faulty(t, ends(head+first, "B", "-C"), api.ErrForm, 3, 1)
			faulty(t, ends(head+first, ":"), api.ErrForm, 2, 2)
			faulty(t, ends(head+first, ":B"), api.ErrForm, 2, 3)
		}
	}
}

func TestParseOfFurtherLinesOfNoField(t *testing.T) {
	for _, more := range []string{"B", "-", "-B", " ", "20C:A", "16S:A", "()"} {
		faulty(t, ends(more), api.ErrForm, 1, 1)
		faulty(t, ends(more, ":20C:A"), api.ErrForm, 1, 1)
		faulty(t, ends(":16R:A", more), api.ErrForm, 2, 1)
		faulty(t, ends(":20C:A", ":16R:A", more), api.ErrForm, 3, 1)
		faulty(t, ends(":16R:A", ":20C:A", ":16R:A", more), api.ErrForm, 4, 1)
		faulty(t, ends(":16R:A", ":16S:A", more), api.ErrForm, 3, 1)
		faulty(t, ends(":16R:A", ":20C:A", ":16S:A", more), api.ErrForm, 4, 1)
		faulty(t, ends(":20C:A", ":16R:A", ":16S:A", more), api.ErrForm, 4, 1)
		faulty(t, ends(":16R:A", ":20C:A", ":16R:A", ":16S:A", more), api.ErrForm, 5, 1)
	}
}

func TestParseOfBlocks(t *testing.T) {
	for n := range 9 { // in 7 others and fewer
		head, tail := strings.Repeat(":16R:A\n", n), strings.Repeat(":16S:A\n", n)
		reads(t, head+tail, deep(n)...)
		reads(t, head+":20C:A\n"+tail, deep(n, field("20C", "", "A"))...)
		reads(t, head+tail+head+tail, append(deep(n), deep(n)...)...)
		faulty(t, head+tail+":16S:A\n", api.ErrLost, 2*n+1, 1)
		if n == 0 {
			continue
		}
		faulty(t, head, api.ErrShort, n+1, 1)
		faulty(t, head+tail[7:], api.ErrShort, 2*n, 1)
		faulty(t, head+":20C:A\nB\n", api.ErrShort, n+3, 1)
		faulty(t, head+":16S:B\n", api.ErrForm, n+1, 6)
		faulty(t, head+tail[7:]+":16S:\n", api.ErrForm, 2*n, 6)
	}
	for n := 9; n < 12; n++ { // in 8 others and more
		head, tail := strings.Repeat(":16R:A\n", n), strings.Repeat(":16S:A\n", n)
		faulty(t, head+tail, api.ErrMany, 9, 1)
	}
	names := "ABCDEFGH"
	var text string
	for i := range names {
		text += ":16R:" + names[i:i+1] + "\n"
	}
	for i := len(names) - 1; i >= 0; i-- { // each may end under its own name alone
		for j := range names {
			if i != j {
				faulty(t, text+":16S:"+names[j:j+1]+"\n", api.ErrForm, 16-i, 6)
			}
		}
		text += ":16S:" + names[i:i+1] + "\n"
	}
	parses(t, text)
	reads(t, ends(":16R:A", ":16R:B", ":16S:B", ":16R:B", ":20C:A", ":16S:B", ":16S:A"), block("A", block("B"), block("B", field("20C", "", "A"))))
}

func TestParseOfLinesWithoutEnd(t *testing.T) {
	for _, s := range []string{"A", "-", ":", ":20C", ":20C:", ":20C:A", ":20C::SEME//A", ":16R:A", ":16R:", ":16S:A", "_", "\x00", "\xff", "A\x80", "\r"} {
		faulty(t, s, api.ErrShort, 1, len(s)+1)
		faulty(t, ends(":20C:A")+s, api.ErrShort, 2, len(s)+1)
		faulty(t, ends(":20C:A", "B")+s, api.ErrShort, 3, len(s)+1)
		faulty(t, ends(":16R:A")+s, api.ErrShort, 2, len(s)+1)
		faulty(t, ends("")+s, api.ErrForm, 1, 1)
	}
	for n := range len(exampleText) { // each beginning of the example
		parses(t, exampleText[:n])
	}
}

// TestParseOrder: lines that are wrong in several things, and texts of which several lines are.
func TestParseOrder(t *testing.T) {
	faulty(t, ":2C:A_", api.ErrShort, 1, 7)
	faulty(t, ends("-_"), api.ErrText, 1, 2)
	faulty(t, ends("A_"), api.ErrText, 1, 2)
	faulty(t, ends(":_"), api.ErrText, 1, 2)
	faulty(t, ends(":2_:"), api.ErrText, 1, 3)
	faulty(t, ends(":2C::SEM_"), api.ErrText, 1, 9)
	faulty(t, ends(":16S:_"), api.ErrText, 1, 6)
	faulty(t, ends(":16R:_#"), api.ErrText, 1, 6)
	faulty(t, ends(":20C:A_#"), api.ErrText, 1, 7)
	faulty(t, ends(":2C::SEM"), api.ErrForm, 1, 2)
	faulty(t, ends(":16S:a"), api.ErrLost, 1, 1)
	faulty(t, ends(":16S"), api.ErrForm, 1, 5)
	eight := strings.Repeat(":16R:A\n", 8)
	faulty(t, eight+":16R:a\n", api.ErrMany, 9, 1)
	faulty(t, eight+":16R:\n", api.ErrMany, 9, 1)
	faulty(t, eight+":16R:a_\n", api.ErrText, 9, 7)
	faulty(t, eight+":16R:A", api.ErrShort, 9, 7)
	faulty(t, eight+":16R\n", api.ErrForm, 9, 5)
	faulty(t, ends("A", "_")+"B", api.ErrForm, 1, 1)
	faulty(t, ends(":20C:A", "", "_"), api.ErrForm, 2, 1)
	faulty(t, ends(":16R:A", ":20C:A", ":16S:B")+"_", api.ErrForm, 3, 6)
	faulty(t, ends(":16R:A", ":16S:")+"_", api.ErrForm, 2, 6)
	faulty(t, ends(":16R:A", ":16R:B", "-"), api.ErrForm, 3, 1)
	faulty(t, ends(":16R:A", ":16R:B")+"-", api.ErrShort, 3, 2)
}

// TestParseOfEachByte: each byte in each place of lines of each kind, in the place of the one there, and beside it.
func TestParseOfEachByte(t *testing.T) {
	for _, text := range []string{exampleText, ends(":20:A", "B"), ends(":16R:A1", ":16R:B", ":16S:B", ":16S:A1"), ends(":20::A0Z9//:-")} {
		for i := range len(text) + 1 {
			for b := range 256 {
				c := string([]byte{byte(b)})
				parses(t, text[:i]+c+text[i:])
				if i < len(text) {
					parses(t, text[:i]+c+text[i+1:])
				}
			}
		}
	}
}

func TestParseTakesJustTheSet(t *testing.T) {
	for b := range 256 {
		c := string([]byte{byte(b)})
		switch {
		case c == "\n":
			reads(t, ends(":20C:A"+c+"B"), field("20C", "", "A\nB"))
			faulty(t, ends(c), api.ErrForm, 1, 1)
		case strings.Contains(set, c):
			reads(t, ends(":20C:A"+c+"B"), field("20C", "", "A"+c+"B"))
			reads(t, ends(":20C::SEME//"+c), field("20C", "SEME", c))
			reads(t, ends(":20C:", "A"+c), field("20C", "", "\nA"+c))
		default:
			faulty(t, ends(":20C:A"+c+"B"), api.ErrText, 1, 7)
			faulty(t, ends(":20C::SEME//"+c), api.ErrText, 1, 13)
			faulty(t, ends(":20C:", "A"+c), api.ErrText, 2, 2)
			faulty(t, ends(c), api.ErrText, 1, 1)
			faulty(t, ends(":"+c), api.ErrText, 1, 2)
			faulty(t, ends(":16R:"+c), api.ErrText, 1, 6)
		}
	}
}

// TestParseOfRowsOfLines: all rows of up to four lines of each kind.
func TestParseOfRowsOfLines(t *testing.T) {
	kinds := []string{":20C:A", ":20::SEME//", "B", "-", "", ":16R:A", ":16R:B", ":16S:A", ":16S:B", ":16S", "B_"}
	rows := []string{""}
	for range 4 {
		var more []string
		for _, row := range rows {
			for _, k := range kinds {
				more = append(more, row+k+"\n")
				parses(t, row+k)
				parses(t, row+k+"\n")
			}
		}
		rows = more
	}
}

func TestParseOfAnyTexts(t *testing.T) {
	d := roll(61)
	for range 6000 {
		text, err := tags.Print(d.message(6, 6))
		if err != nil {
			t.Fatal(err)
		}
		parses(t, text)
		for range d.Below(4) {
			i := d.Below(len(text) + 1)
			j := min(i+d.Below(9), len(text))
			piece := pick(d, "", "\n", ":", "-", "/", "::", "16R", "16S", ":16S:A\n", ":16R:B\n", d.Text(1, set), string([]byte{byte(d.Next())}))
			text = text[:i] + piece + text[j:]
		}
		parses(t, text)
	}
}

func TestParseOfTheLongestTexts(t *testing.T) {
	for _, text := range longest() {
		if len(text) != api.MaxText {
			t.Fatalf("%.20q has %d bytes", text, len(text))
		}
		l, err := tags.Parse(text)
		if err != nil {
			t.Errorf("Parse of %.20q and so on: %v (%+v)", text, err, err)
		}
		if s, err := tags.Print(l); err != nil || s != text {
			t.Errorf("%.20q and so on: what is printed has %d bytes, %v", text, len(s), err)
		}
		tooMany(t, text+"\n")
		tooMany(t, "A"+text)
		tooMany(t, text[:len(text)-1]+"AA")
	}
	for _, wrong := range []string{"\n", "_", "A", ":16R:A\n", "\x00", ":"} {
		tooMany(t, strings.Repeat(wrong, api.MaxText/len(wrong)+1))
	}
	// In what isn't too long the wrong is told with its place.
	for _, x := range []struct {
		text     string
		no       api.Errno
		line, at int
	}{
		{strings.Repeat("A", api.MaxText), api.ErrShort, 1, api.MaxText + 1},
		{strings.Repeat("A", api.MaxText-1) + "\n", api.ErrForm, 1, 1},
		{":20C:" + strings.Repeat("A", api.MaxText-7) + "_\n", api.ErrText, 1, api.MaxText - 1},
		{":" + strings.Repeat("A", api.MaxText-2) + "\n", api.ErrForm, 1, api.MaxText},
		{":20C:\n" + strings.Repeat("A\n", api.MaxText/2-4) + "-\n", api.ErrForm, api.MaxText/2 - 2, 1},
	} {
		if l, err := tags.Parse(x.text); !tells(err, x.no, [2]int{x.line, x.at}) || len(l) != 0 {
			t.Errorf("Parse(%.20q and so on) is %d items, %v (%+v); want %v %d %d", x.text, len(l), err, err, x.no, x.line, x.at)
		}
	}
}

// longest are messages' texts of MaxText bytes: one line; lines of one byte; fields; blocks.
func longest() []string {
	return []string{
		":20C:" + strings.Repeat("A", api.MaxText-6) + "\n",
		":20:\n" + "AA\n" + strings.Repeat("B\n", (api.MaxText-8)/2),
		strings.Repeat(":20:\n", (api.MaxText-6)/5) + ":20C:\n",
		strings.Repeat(":16R:A\n:16S:A\n", (api.MaxText-28)/14) + fillUp((api.MaxText-28)%14+28),
		strings.Repeat(":16R:A\n", 8) + ":20::SEME//" + strings.Repeat("A", api.MaxText-8*14-12) + "\n" + strings.Repeat(":16S:A\n", 8),
	}
}

// fillUp is a field whose text has so many bytes.
func fillUp(n int) string { return ":20C:" + strings.Repeat("A", n-6) + "\n" }

// tooMany checks that a text is refused as too long, whatever else is wrong with it.
func tooMany(t *testing.T, text string) {
	t.Helper()
	if l, err := tags.Parse(text); !tells(err, api.ErrMany, nowhere) || len(l) != 0 {
		t.Errorf("Parse of %d bytes (%.20q) is %d items, %v (%+v)", len(text), text, len(l), err, err)
	}
}

func TestParseIsNewMemory(t *testing.T) {
	d := roll(62)
	for range 300 {
		want := d.message(5, 3)
		text := printed(t, want)
		a, b := parse(t, text), parse(t, text)
		proof.Overrun(a)
		if !proof.SameItems(a, want) {
			t.Fatalf("lists of Parse(%q) share memory", text)
		}
		if shares(texts(a), []string{text}) || shares(texts(a), texts(b)) {
			t.Fatalf("texts of Parse(%q) share memory", text)
		}
		proof.Spoil(a)
		if !proof.SameItems(b, want) || !proof.SameItems(parse(t, text), want) {
			t.Fatalf("two answers of Parse(%q) share memory", text)
		}
	}
}

// TestParseGivesUpQuietly: a fault in the innermost block leaves nothing behind that another call would see.
func TestParseGivesUpQuietly(t *testing.T) {
	for range 100 {
		faulty(t, strings.Repeat(":16R:A\n", 8)+":20C:A\nB\n:16S:B\n", api.ErrForm, 11, 6)
		reads(t, exampleText, example()...)
	}
}
