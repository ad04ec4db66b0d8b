package notice_test

import (
	"errors"
	"strings"
	"testing"

	"custody/api"
	"custody/notice"
	"custody/proof"
	"custody/tags"
)

// ofs checks what Of answers: the error of Parse with its place, else what Read answers of the items.
func ofs(t *testing.T, s string) {
	t.Helper()
	n, err := notice.Of(s)
	l, wrong := tags.Parse(s)
	var place api.Fault
	if wrong == nil {
		want, no := reckoned(l)
		if !proof.SameNotice(n, want) || !proof.Tells(err, no) {
			t.Errorf("Of(%q) is %+v, %v (%+v); want %+v, %v", s, n, err, err, want, no)
		}
		if again, err := notice.Text(n); no == api.OK && (err != nil || again != s) {
			t.Errorf("Text(Of(%q)) is %q, %v", s, again, err)
		}
		return
	}
	if !errors.As(wrong, &place) {
		t.Fatalf("Parse(%.100q) is %v", s, wrong)
	}
	if !proof.SameNotice(n, api.Notice{}) || !proof.TellsAt(err, place.No, place.Line, place.At) {
		t.Errorf("Of(%q) is %+v, %v (%+v); want %+v", s, n, err, err, place)
	}
}

// replaced is the example's text with another piece in it.
func replaced(t *testing.T, old, by string) string {
	t.Helper()
	if strings.Count(exampleText, old) != 1 {
		t.Fatalf("%q is not there once", old)
	}
	return strings.Replace(exampleText, old, by, 1)
}

// P7.4

func TestExample(t *testing.T) {
	if s, err := notice.Text(example()); s != exampleText || err != nil {
		t.Errorf("Text of the example is %q, %v", s, err)
	}
	if n, err := notice.Of(exampleText); !proof.SameNotice(n, example()) || err != nil {
		t.Errorf("Of the example is %+v, %v", n, err)
	}
	ofs(t, exampleText)
}

func TestExamplesTurned(t *testing.T) {
	for _, x := range []struct {
		old, by string
		no      api.Errno
	}{
		{"UNIT/100,", "UNIT/0100,", api.ErrForm},
		{"UNIT/100,", "UNIT/0,", api.ErrAmount},
		{"UNIT/100,", "UNIT/99999999999999999999,", api.ErrForm},
		{"20240104", "20240230", api.ErrDate},
		{"541", "543", api.ErrForm},
		{"541", "540", api.ErrForm},
		{"B2", "A1", api.ErrSame},
		{"SEME//A1", "SEME//", api.ErrText},
		{"SEME//A1", "SEME//A1\nB", api.ErrText},
		{"SEME//A1", "SEME//" + strings.Repeat("A", 17), api.ErrText},
		{"SAFE//ACC1", "SAFE//", api.ErrAccount},
		{"DEUTDEFF", "DEUTDEFFX", api.ErrForm},
		{":16R:AMT\n:19A::SETT//EUR2500,\n:16S:AMT\n", "", api.ErrForm},
		{":16R:LINK\n:22F::LINK//BEFO\n:20C::RELA//B2\n:16S:LINK\n", ":16R:LINK\n:16S:LINK\n", api.ErrForm},
		{":23G:NEWM\n", ":23G:CANC\n", api.ErrForm},
		{":23G:NEWM\n", "", api.ErrForm},
		{":16S:GENL\n", ":20C::PREV//Z9\n:16S:GENL\n", api.ErrForm},
		{":16R:FIAC\n", ":16R:FIAC\n:20C:A\n", api.ErrForm},
	} {
		s := replaced(t, x.old, x.by)
		if n, err := notice.Of(s); !proof.SameNotice(n, api.Notice{}) || !proof.Tells(err, x.no) {
			t.Errorf("with %q Of is %+v, %v (%+v); want %v", x.by, n, err, err, x.no)
		}
		ofs(t, s)
	}
	n, err := notice.Of(replaced(t, ":16R:LINK\n:22F::LINK//BEFO\n:20C::RELA//B2\n:16S:LINK\n", ""))
	if want := turned(example(), linked(0)); !proof.SameNotice(n, want) || err != nil {
		t.Errorf("without a link Of is %+v, %v", n, err)
	}
}

func TestFaultsOfTexts(t *testing.T) {
	for _, x := range []struct {
		old, by  string
		no       api.Errno
		line, at int
	}{
		{":16R:GENL\n", "", api.ErrLost, 8, 1},
		{":16S:GENL\n", "", api.ErrShort, 28, 1},
		{":16S:GENL\n", ":16S:GENM\n", api.ErrForm, 9, 6},
		{":16R:SETDET\n", "", api.ErrLost, 27, 1},
		{":16S:SETDET\n", "", api.ErrShort, 28, 1},
		{":16S:SETDET\n", ":16S:SETDET", api.ErrShort, 28, 12},
		{"A1", "A_1", api.ErrText, 2, 14},
		{"A1", "A1\n", api.ErrForm, 3, 1},
		{":23G:NEWM", ":23g:NEWM", api.ErrForm, 3, 2},
		{"::TYPE//541", "::TYPE/541", api.ErrForm, 4, 7},
		{"::TYPE//541", "::type//541", api.ErrForm, 4, 7},
		{"ACC2", "ACC2\x80", api.ErrText, 23, 17},
		{"UNIT/100,", "UNIT/0100,\n-", api.ErrForm, 18, 1}, // ahead of all errors of Read
		{":20C::SEME//A1", ":20C::SEME//\n\n", api.ErrForm, 3, 1},
	} {
		s := replaced(t, x.old, x.by)
		if n, err := notice.Of(s); !proof.SameNotice(n, api.Notice{}) || !proof.TellsAt(err, x.no, x.line, x.at) {
			t.Errorf("with %q Of is %+v, %v (%+v); want %v at %d %d", x.by, n, err, err, x.no, x.line, x.at)
		}
		ofs(t, s)
	}
}

func TestTextsThatAreTooLong(t *testing.T) {
	for _, s := range []string{strings.Repeat("A", api.MaxText+1), exampleText + strings.Repeat("\n", api.MaxText+1-len(exampleText))} {
		if n, err := notice.Of(s); !proof.SameNotice(n, api.Notice{}) || !proof.Tells(err, api.ErrMany) {
			t.Errorf("Of %d bytes is %+v, %v (%+v)", len(s), n, err, err)
		}
	}
	long := replaced(t, "A1", strings.Repeat("A", api.MaxText+2-len(exampleText)))
	if n, err := notice.Of(long); len(long) != api.MaxText || !proof.SameNotice(n, api.Notice{}) || !proof.Tells(err, api.ErrText) {
		t.Errorf("Of %d bytes is %+v, %v (%+v)", len(long), n, err, err)
	}
	many := replaced(t, ":16S:GENL\n", strings.Repeat(":16R:LINK\n:22F::LINK//WITH\n:20C::RELA//C\n:16S:LINK\n", 18000)+":16S:GENL\n")
	if n, err := notice.Of(many); !proof.SameNotice(n, api.Notice{}) || !proof.Tells(err, api.ErrMany) {
		t.Errorf("Of 18001 links is %+v, %v (%+v)", n, err, err)
	}
}

func TestTextsOfAnyMake(t *testing.T) {
	for _, s := range []string{"", "\n", "A", ":", ":16R:GENL\n:16S:GENL\n", exampleText + exampleText, exampleText + "\n", strings.ToLower(exampleText), strings.ReplaceAll(exampleText, "\n", "\r\n")} {
		ofs(t, s)
	}
	for _, base := range []string{exampleText, printed(t, whole()), printed(t, messageOf(turned(example(), free, deliver)))} {
		for i := range base {
			ofs(t, base[:i])
			ofs(t, base[i:])
			ofs(t, base[:i]+base[i+1:])
			for _, c := range []string{"0", "A", "\n", ":", ",", "_"} {
				ofs(t, base[:i]+c+base[i+1:])
				ofs(t, base[:i]+c+base[i:])
			}
		}
		lines := strings.SplitAfter(strings.TrimSuffix(base, "\n"), "\n")
		for i := range lines {
			for j := range lines {
				l := append([]string(nil), lines...)
				l[i], l[j] = l[j], l[i]
				ofs(t, strings.Join(l, ""))
			}
		}
	}
}
