package tags_test

import (
	"testing"

	"custody/api"
	"custody/proof"
	"custody/tags"
)

// anyItems are items, right or not: fields with Items, names and qualifiers where none belong, items that are nothing.
func (d *dice) anyItems(size, deep int) []api.Item {
	var l []api.Item
	for range d.Below(size + 1) {
		x := api.Item{
			Tag:  pick(d, "", "", "", "20C", "20C", "23G", "16R", "x", "\n"),
			Qual: pick(d, "", "", "SEME", "SEM", "_"),
			Name: pick(d, "", "A", "A", "B", "a", "\x00"),
			Text: pick(d, "", ":", "A", "B", "_", "\n\n") + d.Text(d.Below(3), set),
		}
		if deep > 0 {
			x.Items = d.anyItems(size, deep-1)
		}
		l = append(l, x)
	}
	return l
}

// allFields are the fields of a list in the order in which they would be written: a second reckoning, by a row of what is still to be gone through.
func allFields(l []api.Item) []api.Item {
	var out []api.Item
	for row := append([]api.Item(nil), l...); len(row) > 0; {
		x := row[0]
		row = row[1:]
		switch {
		case x.Tag != "":
			out = append(out, x)
		case x.Name != "":
			row = append(append([]api.Item(nil), x.Items...), row...)
		}
	}
	return out
}

func findsOf(l []api.Item, tag, qual string) (api.Item, bool) {
	for _, x := range allFields(l) {
		if x.Tag == tag && x.Qual == qual {
			return x, true
		}
	}
	return api.Item{}, false
}

func blockOf(l []api.Item, name string) ([]api.Item, bool) {
	for _, x := range l {
		if name != "" && x.Tag == "" && x.Name == name {
			return x.Items, true
		}
	}
	return nil, false
}

// looks checks Find, Block and Count of a list against the second reckoning, that they change nothing, and that they answer new memory.
func looks(t *testing.T, l []api.Item) {
	t.Helper()
	given := proof.Roomy(l)
	for _, tag := range []string{"", "20C", "23G", "16R", "x", "\n", "A"} {
		for _, qual := range []string{"", "SEME", "SEM", "_", "A"} {
			want, has := findsOf(l, tag, qual)
			got, ok := tags.Find(given, tag, qual)
			proof.Overrun(got.Items)
			if ok != has || !proof.SameItem(got, want) {
				t.Errorf("Find(%q, %q, %q) is %q, %v; want %q, %v", l, tag, qual, got, ok, want, has)
			}
			if shares(texts(items(got)), texts(given)) {
				t.Errorf("texts of Find(%q, %q, %q) share memory", l, tag, qual)
			}
			proof.Spoil(got.Items)
		}
	}
	for _, name := range []string{"", "A", "B", "a", "\x00", "20C"} {
		want, has := blockOf(l, name)
		got, ok := tags.Block(given, name)
		proof.Overrun(got)
		if ok != has || !proof.SameItems(got, want) {
			t.Errorf("Block(%q, %q) is %q, %v; want %q, %v", l, name, got, ok, want, has)
		}
		if shares(texts(got), texts(given)) {
			t.Errorf("texts of Block(%q, %q) share memory", l, name)
		}
		proof.Spoil(got)
	}
	if got := tags.Count(given); got != len(allFields(l)) {
		t.Errorf("Count(%q) is %d, want %d", l, got, len(allFields(l)))
	}
	if !proof.SameItems(given, l) || !proof.Untouched(given) {
		t.Errorf("Find, Block or Count change %q", l)
	}
}

// found checks that Find answers just this field.
func found(t *testing.T, want api.Item, l []api.Item, tag, qual string) {
	t.Helper()
	if got, ok := tags.Find(l, tag, qual); !ok || !proof.SameItem(got, want) {
		t.Errorf("Find(%q, %q, %q) is %q, %v; want %q", l, tag, qual, got, ok, want)
	}
}

func notFound(t *testing.T, l []api.Item, tag, qual string) {
	t.Helper()
	if got, ok := tags.Find(l, tag, qual); ok || !isZero(got) {
		t.Errorf("Find(%q, %q, %q) is %q, %v", l, tag, qual, got, ok)
	}
}

func counts(t *testing.T, want int, l ...api.Item) {
	t.Helper()
	if got := tags.Count(l); got != want {
		t.Errorf("Count(%q) is %d, want %d", l, got, want)
	}
}

// P6.3 to P6.6

func TestFind(t *testing.T) {
	l := example()
	found(t, field("20C", "SEME", "REF1"), l, "20C", "SEME")
	found(t, field("23G", "", "NEWM"), l, "23G", "")
	found(t, field("70E", "SPRO", "one\ntwo"), l, "70E", "SPRO")
	for _, x := range [][2]string{{"20C", ""}, {"23G", "SEME"}, {"20", "SEME"}, {"", ""}, {"", "SEME"}, {"GENL", ""}, {"16R", ""}, {"20c", "SEME"}, {"20C", "seme"}, {"20C", "SEM"}} {
		notFound(t, l, x[0], x[1])
		notFound(t, nil, x[0], x[1])
		notFound(t, []api.Item{}, x[0], x[1])
	}
	looks(t, l)
}

func TestFindTheFirst(t *testing.T) {
	one, two, three := field("20C", "SEME", "1"), field("20C", "SEME", "2"), field("20C", "", "3")
	found(t, one, items(one, two), "20C", "SEME")
	found(t, two, items(two, one), "20C", "SEME")
	found(t, two, items(three, two, one), "20C", "SEME")
	found(t, three, items(one, two, three), "20C", "")
	found(t, one, items(block("A", block("B", one)), two), "20C", "SEME") // a block's items ahead of what is behind it
	found(t, one, items(block("A", block("B", three, one), two), two), "20C", "SEME")
	found(t, one, items(block("A", block("B"), block("B", three)), one, block("A", two)), "20C", "SEME")
	found(t, two, items(block("A", two), one), "20C", "SEME")
	found(t, one, items(block("A", two), one)[1:], "20C", "SEME")
}

func TestFindAmongWhatIsNotRight(t *testing.T) {
	in := items(field("20C", "SEME", "in"), block("B", field("23G", "", "_")))
	odd := api.Item{Tag: "20C", Qual: "x", Text: "_\n\n", Name: "A", Items: in}
	found(t, odd, items(odd), "20C", "x") // with all that it has
	notFound(t, items(odd), "20C", "SEME")
	notFound(t, items(odd), "23G", "")
	nothing := api.Item{Text: "A", Qual: "SEME", Items: in}
	notFound(t, items(nothing), "", "SEME")
	notFound(t, items(nothing), "20C", "SEME") // what is neither field nor block has no items that would be written
	notFound(t, items(nothing), "23G", "")
	wrong := api.Item{Name: "no name", Qual: "x", Text: "_", Items: in}
	found(t, in[0], items(nothing, wrong), "20C", "SEME")
	found(t, field("16R", "", "A"), items(wrong, field("16R", "", "A")), "16R", "")
	for _, l := range [][]api.Item{items(odd), items(nothing), items(wrong), items(odd, nothing, wrong)} {
		looks(t, l)
	}
}

func TestBlock(t *testing.T) {
	l := example()
	if in, ok := tags.Block(l, "GENL"); !ok || !proof.SameItems(in, l[0].Items) {
		t.Errorf("Block(GENL) is %q, %v", in, ok)
	}
	a, b := block("A", field("20C", "", "1")), block("A", field("20C", "", "2"))
	field := api.Item{Tag: "20C", Name: "A", Items: items(field("20C", "", "3"))}
	for _, x := range []struct {
		l    []api.Item
		name string
		want []api.Item
		ok   bool
	}{
		{items(a, b), "A", a.Items, true},
		{items(b, a), "A", b.Items, true},
		{items(block("B", a), b), "A", b.Items, true}, // not of a block in one
		{items(block("B", a)), "A", nil, false},
		{items(block("B", a)), "B", items(a), true},
		{items(field), "A", nil, false},
		{items(field, a), "A", a.Items, true},
		{items(block("A")), "A", nil, true}, // there, and without items
		{items(block("A"), b), "A", nil, true},
		{items(api.Item{Name: "A", Qual: "x", Text: "_", Items: items(field)}), "A", items(field), true},
		{items(block("no name", a)), "no name", items(a), true},
		{items(api.Item{Items: items(a)}), "", nil, false},
		{items(field, api.Item{Items: items(a)}, a), "", nil, false},
		{l, "", nil, false},
		{l, "GEN", nil, false},
		{l, "genl", nil, false},
		{l, "70E", nil, false},
		{nil, "A", nil, false},
		{nil, "", nil, false},
	} {
		if in, ok := tags.Block(x.l, x.name); ok != x.ok || !proof.SameItems(in, x.want) {
			t.Errorf("Block(%q, %q) is %q, %v; want %q, %v", x.l, x.name, in, ok, x.want, x.ok)
		}
		looks(t, x.l)
	}
}

func TestCount(t *testing.T) {
	counts(t, 0)
	counts(t, 3, example()...)
	counts(t, 0, block("A"))
	counts(t, 0, block("A", block("B"), block("C")))
	counts(t, 4, field("20C", "", ""), block("A", field("20C", "", ""), block("B", field("20C", "", "")), field("20C", "", "")))
	counts(t, 1, api.Item{Tag: "x", Items: items(field("20C", "", ""))}) // items of a field are not gone through
	counts(t, 1, api.Item{Tag: "16R", Name: "A", Items: example()})
	counts(t, 0, api.Item{Items: example()}) // nor those of what is nothing
	counts(t, 3, api.Item{Name: "no name", Text: "_", Items: example()})
	for n := range 30 {
		counts(t, 3, deep(n, example()...)...)
		found(t, field("23G", "", "NEWM"), deep(n, example()...), "23G", "")
	}
}

// TestVeryDeep: as many parts nested in one another as the document allows.
func TestVeryDeep(t *testing.T) {
	l := deep(1<<16-2, field("20C", "SEME", "A"))
	counts(t, 1, l...)
	found(t, field("20C", "SEME", "A"), l, "20C", "SEME")
	notFound(t, l, "20C", "")
	if in, ok := tags.Block(l, "A"); !ok || tags.Count(in) != 1 {
		t.Errorf("Block of 65534 blocks in one another has %d fields, %v", tags.Count(in), ok)
	}
	x := api.Item{Tag: "20C", Items: l}
	if got, ok := tags.Find(items(x), "20C", ""); !ok || tags.Count(got.Items) != 1 {
		t.Errorf("Find of a field with 65534 blocks in one another has %d fields, %v", tags.Count(got.Items), ok)
	}
}

func TestFindAmongAnyItems(t *testing.T) {
	d := roll(65)
	for range 1500 {
		looks(t, d.anyItems(3, d.Below(4)))
		looks(t, d.message(3, 3))
	}
}

// TestAnswersAreNewMemory: what is answered outlives what was handed in, and the other way round; lists that are shared in what is handed in are not in the answer.
func TestAnswersAreNewMemory(t *testing.T) {
	inner := proof.Roomy(items(field("23G", "", "A"), block("C", field("70E", "", "B"))))
	x := api.Item{Tag: "20C", Name: "A", Items: items(block("A", inner...), block("B", inner...))}
	x.Items[0].Items, x.Items[1].Items = inner, inner
	l := items(api.Item{Name: "D", Items: items(x)}, x)
	want := proof.Roomy(items(x))[0]

	one, ok := tags.Find(l, "20C", "")
	two, _ := tags.Find(l, "20C", "")
	in, has := tags.Block(l, "D")
	if !ok || !has || !proof.SameItem(one, want) || !proof.SameItems(in, items(want)) {
		t.Fatalf("Find, Block: %q, %q", one, in)
	}
	proof.Overrun(one.Items)
	if !proof.SameItem(one, want) {
		t.Errorf("two lists of what Find answers share memory")
	}
	one.Items[0].Items[0].Text = "changed"
	if !proof.SameItem(x, want) || one.Items[1].Items[0].Text != "A" {
		t.Errorf("what Find answers shares memory")
	}
	proof.Overrun(in)
	if !proof.SameItems(in, items(want)) {
		t.Errorf("two lists of what Block answers share memory")
	}
	proof.Spoil(one.Items)
	if !proof.SameItem(x, want) || !proof.SameItem(two, want) || !proof.SameItems(in, items(want)) {
		t.Errorf("what Find answers shares memory with its argument, or with another answer")
	}
	proof.Spoil(in)
	if !proof.SameItem(x, want) || !proof.SameItem(two, want) {
		t.Errorf("what Block answers shares memory")
	}
	proof.Spoil(inner)
	if !proof.SameItem(two, want) {
		t.Errorf("what Find answers shares memory with its argument")
	}
}
