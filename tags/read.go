package tags

import (
	"strings"

	"custody/api"
)

// line is a line of a text, without its end.
type line struct {
	number int // from 1 on
	begin  int // its place in the text, from 0 on
	text   string
	ended  bool
}

// lines is a function that hands out the next line of a text, and true; behind the last one, false and a line that has nothing but its number.
func lines(text string) func() (line, bool) {
	number, begin := 1, 0
	return func() (line, bool) {
		if begin == len(text) {
			return line{number: number}, false
		}
		own, _, ended := strings.Cut(text[begin:], "\n")
		cut := line{number, begin, own, ended}
		number++
		begin = min(begin+len(own)+1, len(text))
		return cut, true
	}
}

// reader reads a text as items, and gives up by a panic with the fault where one is wrong.
type reader struct {
	text string
	next func() (line, bool)
}

// read is the message that a text tells.
func read(text string) (l []api.Item, err error) {
	defer func() {
		given := recover()
		if given == nil {
			return
		}
		fault, ok := given.(api.Fault)
		if !ok {
			panic(given) // no fault of the text, and not to be told as one
		}
		l, err = nil, fault
	}()
	r := reader{text, lines(text)}
	return r.items(0, ""), nil
}

// items reads on to the end of the innermost block, which has this name; in no block, to the end of the text.
func (r reader) items(depth int, name string) []api.Item {
	var l []api.Item
	for {
		n, ok := r.next()
		if !ok {
			n.refuse(depth > 0, api.ErrShort, 1)
			return l
		}
		n.check()
		if n.text[0] != ':' {
			r.further(l, n)
			continue
		}
		tag, rest, found := strings.Cut(n.text[1:], ":")
		n.refuse(!found, api.ErrForm, len(n.text)+1)
		switch tag {
		case opening:
			l = append(l, r.block(n, rest, depth))
		case closing:
			n.refuse(depth == 0, api.ErrLost, 1)
			n.refuse(rest != name, api.ErrForm, len(n.text)-len(rest)+1)
			return l
		default:
			l = append(l, n.field(tag, rest))
		}
	}
}

// block reads the block that begins with a line n, in so many others.
func (r reader) block(n line, name string, depth int) api.Item {
	n.refuse(depth >= api.MaxDepth, api.ErrMany, 1)
	n.refuse(!isName(name), api.ErrForm, len(n.text)-len(name)+1)
	return api.Item{Name: name, Items: r.items(depth+1, name)}
}

// further reads one more line of the field ahead of it. What is ahead of it is the last item read here: in a block that has just begun there is none, and one that has ended is no field.
func (r reader) further(l []api.Item, n line) {
	n.refuse(n.text[0] == '-' || len(l) == 0 || !isField(l[len(l)-1]), api.ErrForm, 1)
	ahead := &l[len(l)-1]
	begin := n.begin - len("\n") - len(ahead.Text)
	ahead.Text = r.text[begin : n.begin+len(n.text)] // cut anew, as joining line by line would copy a long text again and again
}

// check refuses what is wrong with a line of whatever kind.
func (n line) check() {
	n.refuse(!n.ended, api.ErrShort, len(n.text)+1)
	wrong := firstNot(isOfSet, n.text)
	n.refuse(wrong < len(n.text), api.ErrText, wrong+1)
	n.refuse(n.text == "", api.ErrForm, 1)
}

// field is the field that begins with a line of this tag and this rest.
func (n line) field(tag, rest string) api.Item {
	n.refuse(!isTag(tag), api.ErrForm, 2)
	if !strings.HasPrefix(rest, ":") {
		return api.Item{Tag: tag, Text: rest}
	}
	qual, text, found := strings.Cut(rest[1:], "//")
	n.refuse(!found || !isQualifier(qual), api.ErrForm, len(n.text)-len(rest)+2)
	return api.Item{Tag: tag, Qual: qual, Text: text}
}

// refuse gives the whole text up where a line is wrong.
func (n line) refuse(wrong bool, no api.Errno, at int) {
	if wrong {
		panic(api.Fault{No: no, Line: n.number, At: at})
	}
}
