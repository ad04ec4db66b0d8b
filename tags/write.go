package tags

import (
	"strings"

	"custody/api"
)

// sheet is a text that is written. What would make it too long is counted alone, as an item behind it may be wrong yet.
type sheet struct {
	text strings.Builder
	size int
}

// items writes a list that lies in so many blocks, up to what is wrong first.
func (s *sheet) items(l []api.Item, depth int) error {
	for _, x := range l {
		if err := check(x, depth); err != nil {
			return err
		}
		if isField(x) {
			s.field(x)
			continue
		}
		s.put(":", opening, ":", x.Name, "\n")
		if err := s.items(x.Items, depth+1); err != nil {
			return err
		}
		s.put(":", closing, ":", x.Name, "\n")
	}
	return nil
}

func (s *sheet) field(x api.Item) {
	s.put(":", x.Tag, ":")
	if x.Qual != "" {
		s.put(":", x.Qual, "//")
	}
	s.put(x.Text, "\n")
}

func (s *sheet) put(parts ...string) {
	for _, p := range parts {
		s.size += len(p)
		if s.size <= api.MaxText {
			s.text.WriteString(p)
		}
	}
}

// check tells what is wrong with an item by itself, in so many blocks.
func check(x api.Item, depth int) error {
	if isField(x) {
		return checkField(x)
	}
	if isBlock(x) {
		return checkBlock(x, depth)
	}
	return api.ErrKind
}

func checkField(x api.Item) error {
	if !isTag(x.Tag) || x.Qual != "" && !isQualifier(x.Qual) || x.Name != "" || len(x.Items) > 0 {
		return api.ErrForm
	}
	if firstNot(isOfText, x.Text) < len(x.Text) {
		return api.ErrText
	}
	// Without a qualifier a : ahead of the text would be read as one's beginning.
	if x.Qual == "" && strings.HasPrefix(x.Text, ":") || !goesOn(x.Text) {
		return api.ErrForm
	}
	return nil
}

func checkBlock(x api.Item, depth int) error {
	if depth >= api.MaxDepth {
		return api.ErrMany
	}
	if !isName(x.Name) || x.Qual != "" || x.Text != "" {
		return api.ErrForm
	}
	return nil
}
