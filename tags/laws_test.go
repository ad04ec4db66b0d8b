package tags_test

import (
	"slices"
	"strings"
	"testing"

	"custody/api"
	"custody/proof"
	"custody/tags"
)

// P6.7: parses and prints check it for each text and each list that they are given. Here: unlike messages have unlike texts.

func TestReadAndWrittenAreInverse(t *testing.T) {
	d := roll(66)
	seen := map[string][]api.Item{}
	for range 30000 {
		l := d.message(d.Below(4), d.Below(3))
		s := printed(t, l)
		if was, ok := seen[s]; ok && !proof.SameItems(was, l) {
			t.Errorf("%q and %q have the text %q", was, l, s)
		}
		seen[s] = l
		if got := parse(t, s); !proof.SameItems(got, l) {
			t.Errorf("Parse(Print(%q)) is %q", l, got)
		}
	}
}

// P6.8

func TestMessagesBehindOneAnother(t *testing.T) {
	d := roll(67)
	for range 5000 {
		a, b := d.message(4, 6), d.message(4, 6)
		s := printed(t, a) + printed(t, b)
		if got := printed(t, slices.Concat(a, b)); got != s {
			t.Errorf("Print of %q and %q is %q, want %q", a, b, got, s)
		}
		if got := parse(t, s); !proof.SameItems(got, slices.Concat(a, b)) {
			t.Errorf("Parse(%q) is %q", s, got)
		}
	}
	half := ":20C:" + strings.Repeat("A", api.MaxText/2-6) + "\n"
	l := parse(t, half+half)
	if !proof.SameItems(l, slices.Concat(parse(t, half), parse(t, half))) || printed(t, l) != half+half {
		t.Errorf("two messages of half the length are not one")
	}
	tooMany(t, half+half+":20:\n")
}

func TestMessagesAsItemsOfABlock(t *testing.T) {
	d := roll(68)
	for range 5000 {
		l := d.message(4, 6) // no block lies in 7 others
		s := ends(":16R:AB") + printed(t, l) + ends(":16S:AB")
		if got := printed(t, items(block("AB", l...))); got != s {
			t.Errorf("Print of a block of %q is %q, want %q", l, got, s)
		}
		if got := parse(t, s); !proof.SameItems(got, items(block("AB", l...))) {
			t.Errorf("Parse(%q) is %q", s, got)
		}
	}
	refused(t, api.ErrMany, block("AB", deep(8)...)) // here one does
}

// P6.9: startsRight is asked for each text that parses finds an error in.

// startsRight checks that the lines ahead of the one with an error, with the ends of the blocks that are open there, are a message's text.
func startsRight(t *testing.T, text string, number int) {
	t.Helper()
	head := strings.SplitAfter(text, "\n")[:number-1]
	var open []string
	for _, s := range head {
		if name, ok := strings.CutPrefix(s, ":16R:"); ok {
			open = append(open, name)
		}
		if strings.HasPrefix(s, ":16S:") {
			open = open[:len(open)-1]
		}
	}
	whole := strings.Join(head, "")
	for _, name := range slices.Backward(open) {
		whole += ":16S:" + name
	}
	if len(whole) > api.MaxText {
		return
	}
	l, err := tags.Parse(whole)
	if err != nil {
		t.Errorf("the lines of %.300q ahead of %d are no message's: %v (%+v)", text, number, err, err)
		return
	}
	if s, err := tags.Print(l); err != nil || s != whole {
		t.Errorf("Print(Parse(%.300q)) is %.300q, %v", whole, s, err)
	}
}

func TestLinesAheadOfAnError(t *testing.T) {
	startsRight(t, ends(":16R:A", ":20C:A", "B", ":16R:B", ":16S:A"), 5)
	d := roll(69)
	for range 500 {
		text := printed(t, d.message(4, 6))
		lines := strings.SplitAfter(text, "\n")
		for i := range lines {
			wrong := strings.Join(lines[:i], "") + pick(d, "_\n", "-\n", "\n", ":\n", ":16S:\n", ":16R:\n", "A", ":20C::\n") + strings.Join(lines[i:], "")
			parses(t, wrong)
		}
	}
}
