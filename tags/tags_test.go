package tags_test

import (
	"strings"
	"testing"
	"unsafe"

	"custody/api"
	"custody/proof"
	"custody/tags"
)

const (
	digits   = "0123456789"
	capitals = "ABCDEFGHIJKLMNOPQRSTUVWXYZ"
	smalls   = "abcdefghijklmnopqrstuvwxyz"
	set      = digits + capitals + smalls + " /-?:().,'+"
)

// nowhere is the place of an error that tells none.
var nowhere = [2]int{}

// tells tells whether err is the one number no (nil for OK), with the place at (a line, a byte), or with none.
func tells(err error, no api.Errno, at [2]int) bool {
	if no == api.OK || at == nowhere {
		return proof.Tells(err, no)
	}
	return proof.TellsAt(err, no, at[0], at[1])
}

// dice draws what this layer is asked with.
type dice struct{ proof.Dice }

func roll(seed uint64) *dice { return &dice{proof.Dice(seed)} }

func pick[T any](d *dice, l ...T) T { return proof.Of(&d.Dice, l...) }

// What is handed in and answered: items.

func isZero(x api.Item) bool { return proof.SameItem(x, api.Item{}) }

func field(tag, qual, text string) api.Item { return api.Item{Tag: tag, Qual: qual, Text: text} }

func block(name string, l ...api.Item) api.Item { return api.Item{Name: name, Items: l} }

func items(l ...api.Item) []api.Item { return l }

// deep is a list that lies in n blocks.
func deep(n int, l ...api.Item) []api.Item {
	for range n {
		l = items(block("A", l...))
	}
	return l
}

// texts are all texts of a list's items.
func texts(l []api.Item) []string {
	var out []string
	for _, x := range l {
		out = append(out, x.Tag, x.Qual, x.Text, x.Name)
		out = append(out, texts(x.Items)...)
	}
	return out
}

// shares tells whether one of these texts lies in the memory of one of those.
func shares(these, those []string) bool {
	for _, a := range these {
		for _, b := range those {
			from := uintptr(unsafe.Pointer(unsafe.StringData(b)))
			at := uintptr(unsafe.Pointer(unsafe.StringData(a)))
			if a != "" && from <= at && at < from+uintptr(len(b)) {
				return true
			}
		}
	}
	return false
}

// The calls, where they must have no error.

func parse(t *testing.T, text string) []api.Item {
	t.Helper()
	l, err := tags.Parse(text)
	if err != nil {
		t.Fatalf("Parse(%.200q) is %v (%+v)", text, err, err)
	}
	return l
}

func printed(t *testing.T, l []api.Item) string {
	t.Helper()
	s, err := tags.Print(l)
	if err != nil {
		t.Fatalf("Print(%.200q) is %v", l, err)
	}
	return s
}

// ends is lines, each with its end.
func ends(lines ...string) string { return strings.Join(append(lines, ""), "\n") }

// Messages of any make.

// message is one of at most so many items, no block of which lies in more than so many others.
func (d *dice) message(size, deep int) []api.Item {
	var l []api.Item
	for range d.Below(size + 1) {
		if d.Below(3) > 0 || deep < 0 {
			l = append(l, d.field())
			continue
		}
		l = append(l, block(d.name(), d.message(size, deep-1)...))
	}
	return l
}

func (d *dice) field() api.Item {
	tag := d.Text(2, digits)
	if d.Below(4) > 0 {
		tag += d.Text(1, capitals)
	}
	if tag == "16R" || tag == "16S" {
		tag = "16"
	}
	qual := ""
	if d.Below(2) > 0 {
		qual = d.Text(4, digits+capitals)
	}
	text := d.Text(d.Below(8), set)
	if qual == "" {
		text = strings.TrimLeft(text, ":")
	}
	for d.Below(4) == 0 {
		text += "\n" + d.Text(1, strings.NewReplacer(":", "", "-", "").Replace(set)) + d.Text(d.Below(5), set)
	}
	return field(tag, qual, text)
}

func (d *dice) name() string { return d.Text(1+d.Below(16), digits+capitals) }
