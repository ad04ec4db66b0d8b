package codes_test

import (
	"fmt"
	"math/big"
	"strconv"
	"strings"
	"testing"
	"unsafe"

	"custody/api"
	"custody/codes"
	"custody/proof"
)

const (
	digits   = "0123456789"
	capitals = "ABCDEFGHIJKLMNOPQRSTUVWXYZ"
	signs    = digits + capitals
	nowhere  = -1 // the place of an error that tells none
)

// tells tells whether err is the one number no (nil for OK), with the place at, or with none.
func tells(err error, no api.Errno, at int) bool {
	if no == api.OK || at == nowhere {
		return proof.Tells(err, no)
	}
	return proof.TellsAt(err, no, 0, at)
}

// call is one of the layer's calls that read a text: the form of the longest one, one that it takes, which lengths it takes, and what it answers: whether all beside the error is zero, and the error.
type call struct {
	name, form, good string
	sizes            []int
	ask              func(s string) (bool, error)
}

func calls() []call {
	return []call{
		{"Isin", "CCSSSSSSSSSD", "US0378331005", []int{12}, func(s string) (bool, error) {
			c, err := codes.Isin(s)
			return c == api.Isin{}, err
		}},
		{"IsinDigit", "CCSSSSSSSSS", "US037833100", []int{11}, func(s string) (bool, error) {
			d, err := codes.IsinDigit(s)
			return d == 0, err
		}},
		{"Lei", "SSSSSSSSSSSSSSSSSSDD", "7LTWFZYICNSX8D621K86", []int{20}, func(s string) (bool, error) {
			c, err := codes.Lei(s)
			return c == api.Lei{}, err
		}},
		{"LeiDigits", "SSSSSSSSSSSSSSSSSS", "7LTWFZYICNSX8D621K", []int{18}, func(s string) (bool, error) {
			d, err := codes.LeiDigits(s)
			return d == "", err
		}},
		{"Bic", "CCCCCCSSSSS", "DEUTDEFF500", []int{8, 11}, func(s string) (bool, error) {
			p, err := codes.Bic(s)
			return p == [4]string{}, err
		}},
		{"Currency", "CCC", "EUR", []int{3}, func(s string) (bool, error) {
			return true, codes.Currency(s)
		}},
		{"Account", strings.Repeat("S", 34), "DE89370400440532013000ABCDEFGHIJKL", from1to(34), func(s string) (bool, error) {
			return true, codes.Account(s)
		}},
	}
}

func from1to(n int) []int {
	l := make([]int, n)
	for i := range l {
		l[i] = i + 1
	}
	return l
}

// takes tells whether a call takes texts of n bytes.
func (c call) takes(n int) bool {
	for _, size := range c.sizes {
		if size == n {
			return true
		}
	}
	return false
}

// refuses checks that a call answers an error, and nothing beside it.
func (c call) refuses(t *testing.T, s string, no api.Errno, at int) {
	t.Helper()
	if zero, err := c.ask(s); !tells(err, no, at) || !zero {
		t.Errorf("%s(%q) is %v (%#v), the rest zero: %v; want %v at %d", c.name, s, err, err, zero, no, at)
	}
}

// stands tells which bytes a place of a form takes.
func stands(place byte) string {
	switch place {
	case 'D':
		return digits
	case 'C':
		return capitals
	}
	return signs
}

// put is s with the byte b at the place i.
func put(s string, i int, b byte) string { return s[:i] + string([]byte{b}) + s[i+1:] }

// swapped is s with the bytes at i and i + 1 changed about.
func swapped(s string, i int) string { return put(put(s, i, s[i+1]), i+1, s[i]) }

func isOne(b byte, of string) bool { return strings.IndexByte(of, b) >= 0 }

// Forms and errors, of all calls

func TestLengths(t *testing.T) {
	for _, c := range calls() {
		long := len(c.form)
		for n := range long + 30 {
			// Good bytes, others, and ones that are signs only as runes: the length is looked at ahead of what stands there.
			for _, s := range []string{
				(c.good + strings.Repeat("0", 30))[:n],
				strings.Repeat("-", n), strings.Repeat("\x00", n), strings.Repeat("\xff", n), strings.Repeat("a", n),
			} {
				switch {
				case n > long:
					c.refuses(t, s, api.ErrLong, nowhere)
				case !c.takes(n):
					c.refuses(t, s, api.ErrShort, nowhere)
				case s == c.good[:n]:
					if _, err := c.ask(s); err != nil {
						t.Errorf("%s(%q) is %v", c.name, s, err)
					}
				default:
					c.refuses(t, s, api.ErrText, 0)
				}
			}
		}
		c.refuses(t, strings.Repeat("A", api.MaxText), api.ErrLong, nowhere)
	}
}

func TestLengthsAreBytes(t *testing.T) {
	for _, c := range calls() {
		// A letter of two bytes: it is two places, and neither is a sign.
		s := c.good[:1] + "Ä" + c.good[3:]
		c.refuses(t, s, api.ErrText, 1)
		c.refuses(t, c.good+"Ä", api.ErrLong, nowhere)
	}
	currency := calls()[5]
	currency.refuses(t, "€", api.ErrText, 0)
	currency.refuses(t, "Ä", api.ErrShort, nowhere)
	currency.refuses(t, "ÄÄ", api.ErrLong, nowhere)
}

func TestEachByteAtEachPlace(t *testing.T) {
	for _, c := range calls() {
		for _, size := range c.sizes {
			good := c.good[:size]
			for i := range size {
				for b := range 256 {
					s := put(good, i, byte(b))
					if !isOne(byte(b), stands(c.form[i])) {
						c.refuses(t, s, api.ErrText, i)
						continue
					}
					if zero, err := c.ask(s); err != nil && !(tells(err, api.ErrSum, nowhere) && zero) {
						t.Errorf("%s(%q) is %v, the rest zero: %v", c.name, s, err, zero)
					}
				}
			}
		}
	}
}

func TestTheFirstPlaceIsTold(t *testing.T) {
	for _, c := range calls() {
		for _, size := range c.sizes {
			for i := range size {
				for j := i + 1; j < size; j++ {
					c.refuses(t, put(put(c.good[:size], i, '-'), j, 'z'), api.ErrText, i)
				}
			}
		}
	}
}

func TestFormAheadOfSum(t *testing.T) {
	all := calls()
	isin, lei := all[0], all[2]
	// Both sums are wrong too.
	isin.refuses(t, "US03783310-4", api.ErrText, 10)
	isin.refuses(t, "U00378331004", api.ErrText, 1)
	isin.refuses(t, "US037833100", api.ErrShort, nowhere)
	isin.refuses(t, "US03783310044", api.ErrLong, nowhere)
	lei.refuses(t, "7LTWFZYICNSX8D621k68", api.ErrText, 17)
	lei.refuses(t, "7LTWFZYICNSX8D621K6A", api.ErrText, 19)
	lei.refuses(t, "7LTWFZYICNSX8D621K6", api.ErrShort, nowhere)
	lei.refuses(t, "7LTWFZYICNSX8D621K688", api.ErrLong, nowhere)
}

// P2.1

func TestIsin(t *testing.T) {
	for _, s := range []string{"US0378331005", "DE000BAY0017", "GB0002634946", "ZZZZZZZZZZZ6", "AA0000000006"} {
		got, err := codes.Isin(s)
		if string(got[:]) != s || err != nil {
			t.Errorf("Isin(%q) is %q, %v", s, got, err)
		}
	}
	isin := calls()[0]
	isin.refuses(t, "US0378331004", api.ErrSum, nowhere)
	isin.refuses(t, "us0378331005", api.ErrText, 0)
	isin.refuses(t, "US037833100X", api.ErrText, 11)
	isin.refuses(t, "US037833100", api.ErrShort, nowhere)
	isin.refuses(t, "US03783310055", api.ErrLong, nowhere)
	isin.refuses(t, "", api.ErrShort, nowhere)
}

// spreadText is the spread of s, as a text.
func spreadText(s string) string {
	var out string
	for _, c := range []byte(s) {
		out += strconv.Itoa(strings.IndexByte(signs, c))
	}
	return out
}

// luhnSum is the Luhn sum of digits in a text, from the last one to the first.
func luhnSum(text string) int {
	sum := 0
	twice := false
	for i := len(text) - 1; i >= 0; i-- {
		n := int(text[i] - '0')
		if twice {
			n = []int{0, 2, 4, 6, 8, 1, 3, 5, 7, 9}[n]
		}
		sum += n
		twice = !twice
	}
	return sum
}

func TestIsinByItsSum(t *testing.T) {
	x := noise(1)
	taken := 0
	for range 20000 {
		s := x.text("CCSSSSSSSSSD")
		got, err := codes.Isin(s)
		if luhnSum(spreadText(s))%10 == 0 {
			taken++
			if string(got[:]) != s || err != nil {
				t.Fatalf("Isin(%q) is %q, %v", s, got, err)
			}
		} else if (got != api.Isin{}) || !tells(err, api.ErrSum, nowhere) {
			t.Fatalf("Isin(%q) is %q, %v; its sum is wrong", s, got, err)
		}
	}
	if taken < 1000 {
		t.Errorf("only %d taken", taken)
	}
}

// P2.2

func TestIsinDigit(t *testing.T) {
	for head, want := range map[string]byte{
		"US037833100": '5', "XS000000000": '9', "AA00000C000": '4', "AA00000K000": '4', "DE000BAY001": '7', "GB000263494": '6',
		"AA000000000": '6', "AA000000003": '0', "ZZZZZZZZZZZ": '6',
	} {
		if got, err := codes.IsinDigit(head); got != want || err != nil {
			t.Errorf("IsinDigit(%q) is %q, %v; want %q", head, got, err, want)
		}
	}
	digit := calls()[1]
	digit.refuses(t, "US03783310", api.ErrShort, nowhere)
	digit.refuses(t, "US0378331005", api.ErrLong, nowhere)
	digit.refuses(t, "US03783310x", api.ErrText, 10)
	digit.refuses(t, "1S037833100", api.ErrText, 0)
	digit.refuses(t, "U1037833100", api.ErrText, 1)
	digit.refuses(t, "", api.ErrShort, nowhere)
}

func TestIsinDigitIsTheOneAlone(t *testing.T) {
	x := noise(2)
	met := [10]int{}
	for range 3000 {
		head := x.text("CCSSSSSSSSS")
		digit, err := codes.IsinDigit(head)
		if err != nil || !isOne(digit, digits) {
			t.Fatalf("IsinDigit(%q) is %q, %v", head, digit, err)
		}
		met[digit-'0']++
		for _, d := range []byte(digits) {
			s := head + string([]byte{d})
			got, err := codes.Isin(s)
			if d == digit && (err != nil || codes.Text(got) != s) {
				t.Fatalf("Isin(%q) is %q, %v; IsinDigit tells %q", s, got, err, digit)
			}
			if d != digit && !(tells(err, api.ErrSum, nowhere) && got == api.Isin{}) {
				t.Fatalf("Isin(%q) is %q, %v; IsinDigit tells %q", s, got, err, digit)
			}
		}
	}
	for d, n := range met {
		if n == 0 {
			t.Errorf("%d was never a check digit", d)
		}
	}
}

// P2.3

func TestLeiDigits(t *testing.T) {
	for head, want := range map[string]string{
		"000000000000000000": "98", "000000000000000032": "02", "000000000000001B00": "69", "00000000000000B100": "69",
		"7LTWFZYICNSX8D621K": "86", "INR2EJN1ERAN0W5ZP9": "74",
		"000000000000000001": "95", "000000000000000097": "98", "ZZZZZZZZZZZZZZZZZZ": "40",
	} {
		if got, err := codes.LeiDigits(head); got != want || err != nil {
			t.Errorf("LeiDigits(%q) is %q, %v; want %q", head, got, err, want)
		}
	}
	ask := calls()[3]
	ask.refuses(t, "00000000000000000", api.ErrShort, nowhere)
	ask.refuses(t, "0000000000000000000", api.ErrLong, nowhere)
	ask.refuses(t, "00000000000000000x", api.ErrText, 17)
	ask.refuses(t, "00000000 000000000", api.ErrText, 8)
	ask.refuses(t, "", api.ErrShort, nowhere)
}

// leiPair is what P2.3 says, reckoned with the whole number.
func leiPair(head string) string {
	n, _ := new(big.Int).SetString(spreadText(head)+"00", 10)
	return fmt.Sprintf("%02d", 98-n.Mod(n, big.NewInt(97)).Int64())
}

func TestLeiDigitsByTheWholeNumber(t *testing.T) {
	x := noise(3)
	for range 5000 {
		head := x.text("SSSSSSSSSSSSSSSSSS")
		if got, err := codes.LeiDigits(head); got != leiPair(head) || err != nil {
			t.Fatalf("LeiDigits(%q) is %q, %v; want %q", head, got, err, leiPair(head))
		}
	}
}

func TestLeiDigitsFrom02To98(t *testing.T) {
	met := map[string]int{}
	for n := range 97 {
		pair, err := codes.LeiDigits(fmt.Sprintf("%018d", n))
		if err != nil || len(pair) != 2 || pair < "02" || pair > "98" {
			t.Errorf("LeiDigits of %d is %q, %v", n, pair, err)
		}
		met[pair]++
	}
	if len(met) != 97 {
		t.Errorf("%d pairs of 97", len(met))
	}
}

// P2.4

func TestLei(t *testing.T) {
	for _, s := range []string{"7LTWFZYICNSX8D621K86", "INR2EJN1ERAN0W5ZP974", "00000000000000000098", "00000000000000003202"} {
		got, err := codes.Lei(s)
		if string(got[:]) != s || err != nil {
			t.Errorf("Lei(%q) is %q, %v", s, got, err)
		}
	}
	lei := calls()[2]
	lei.refuses(t, "7LTWFZYICNSX8D621K68", api.ErrSum, nowhere)
	// The remainders of these are 1 as they are of the pairs that LeiDigits tells.
	lei.refuses(t, "00000000000000000001", api.ErrSum, nowhere)
	lei.refuses(t, "00000000000000003299", api.ErrSum, nowhere)
	lei.refuses(t, "00000000000000006500", api.ErrSum, nowhere)
	lei.refuses(t, "7LTWFZYICNSX8D621K8X", api.ErrText, 19)
	lei.refuses(t, "7LTWFZYICNSX8D621KX6", api.ErrText, 18)
	lei.refuses(t, "", api.ErrShort, nowhere)
}

func TestLeiTakesOnePairAlone(t *testing.T) {
	x := noise(4)
	heads := []string{"000000000000000000", "000000000000000032", "000000000000000065", "ZZZZZZZZZZZZZZZZZZ"}
	for range 300 {
		heads = append(heads, x.text("SSSSSSSSSSSSSSSSSS"))
	}
	for _, head := range heads {
		pair, err := codes.LeiDigits(head)
		if err != nil {
			t.Fatalf("LeiDigits(%q): %v", head, err)
		}
		for n := range 100 {
			s := head + fmt.Sprintf("%02d", n)
			got, err := codes.Lei(s)
			if s == head+pair && (err != nil || codes.Text(got) != s) {
				t.Fatalf("Lei(%q) is %q, %v; LeiDigits tells %q", s, got, err, pair)
			}
			if s != head+pair && !(tells(err, api.ErrSum, nowhere) && got == api.Lei{}) {
				t.Fatalf("Lei(%q) is %q, %v; LeiDigits tells %q", s, got, err, pair)
			}
		}
	}
}

// P2.5

func TestBic(t *testing.T) {
	for _, c := range []struct {
		s    string
		want [4]string
	}{
		{"DEUTDEFF", [4]string{"DEUT", "DE", "FF", ""}},
		{"DEUTDEFFXXX", [4]string{"DEUT", "DE", "FF", ""}},
		{"DEUTDEFF500", [4]string{"DEUT", "DE", "FF", "500"}},
		{"BNPAFRPP", [4]string{"BNPA", "FR", "PP", ""}},
		{"ABCDEFGHIJK", [4]string{"ABCD", "EF", "GH", "IJK"}},
		{"ABCDEF01234", [4]string{"ABCD", "EF", "01", "234"}},
		{"XXXXXXXX", [4]string{"XXXX", "XX", "XX", ""}},
		{"XXXXXXXXXXX", [4]string{"XXXX", "XX", "XX", ""}},
		{"DEUTDEFFXX0", [4]string{"DEUT", "DE", "FF", "XX0"}},
		{"DEUTDEFFX0X", [4]string{"DEUT", "DE", "FF", "X0X"}},
		{"DEUTDEFF0XX", [4]string{"DEUT", "DE", "FF", "0XX"}},
		{"DEUTDEFF000", [4]string{"DEUT", "DE", "FF", "000"}},
	} {
		if got, err := codes.Bic(c.s); got != c.want || err != nil {
			t.Errorf("Bic(%q) is %q, %v; want %q", c.s, got, err, c.want)
		}
	}
}

func TestBicRefuses(t *testing.T) {
	bic := calls()[4]
	for s, no := range map[string]api.Errno{
		"": api.ErrShort, "D": api.ErrShort, "DEUTDEF": api.ErrShort, "DEUTDEFF5": api.ErrShort, "DEUTDEFF50": api.ErrShort,
		"DEUTDEFF5000": api.ErrLong, "DEUTDEFFXXXX": api.ErrLong, "deutdeff5": api.ErrShort, "deutdeff5000": api.ErrLong,
	} {
		bic.refuses(t, s, no, nowhere)
	}
	for s, at := range map[string]int{
		"DEUT1EFF": 4, "DEUTDEFFxxx": 8, "1EUTDEFF": 0, "DEUTD1FF": 5, "DEUTDEfF": 6, "DEUTDEF-": 7, "DEUTDEFFXXx": 10, "DEUTDEFFX\xd8X": 9,
		"DEU5DEFF500": 3,
	} {
		bic.refuses(t, s, api.ErrText, at)
	}
}

func TestBicIsNewMemory(t *testing.T) {
	s := strings.Clone("DEUTDEFF500")
	low := uintptr(unsafe.Pointer(unsafe.StringData(s)))
	parts, err := codes.Bic(s)
	if err != nil {
		t.Fatal(err)
	}
	for _, p := range parts {
		if at := uintptr(unsafe.Pointer(unsafe.StringData(p))); at >= low && at < low+uintptr(len(s)) {
			t.Errorf("%q lies in the argument", p)
		}
	}
}

// P2.6

func TestCurrency(t *testing.T) {
	for _, s := range []string{"EUR", "USD", "AAA", "ZZZ"} {
		if err := codes.Currency(s); err != nil {
			t.Errorf("Currency(%q) is %v", s, err)
		}
	}
	currency := calls()[5]
	currency.refuses(t, "", api.ErrShort, nowhere)
	currency.refuses(t, "EU", api.ErrShort, nowhere)
	currency.refuses(t, "EURO", api.ErrLong, nowhere)
	currency.refuses(t, "E1R", api.ErrText, 1)
	currency.refuses(t, "eUR", api.ErrText, 0)
	currency.refuses(t, "EU\x80", api.ErrText, 2)
}

func TestAccount(t *testing.T) {
	for _, s := range []string{
		"0", "9", "A", "Z", "D1", "DE89370400440532013000",
		"1234567890123456789012345678901234", strings.Repeat("Z", 34), strings.Repeat("Z", 33),
	} {
		if err := codes.Account(s); err != nil {
			t.Errorf("Account(%q) is %v", s, err)
		}
	}
	account := calls()[6]
	account.refuses(t, "", api.ErrShort, nowhere)
	account.refuses(t, "12345678901234567890123456789012345", api.ErrLong, nowhere)
	account.refuses(t, strings.Repeat("-", 35), api.ErrLong, nowhere)
	account.refuses(t, "A-1", api.ErrText, 1)
	account.refuses(t, "-", api.ErrText, 0)
	account.refuses(t, "a", api.ErrText, 0)
	account.refuses(t, strings.Repeat("A", 33)+" ", api.ErrText, 33)
}

// P2.7

func TestText(t *testing.T) {
	if got := codes.Text(api.Isin{}); got != strings.Repeat("\x00", 12) {
		t.Errorf("Text of a zero ISIN is %q", got)
	}
	if got := codes.Text(api.Lei{}); got != strings.Repeat("\x00", 20) {
		t.Errorf("Text of a zero LEI is %q", got)
	}
	for b := range 256 {
		var isin api.Isin
		var lei api.Lei
		for i := range isin {
			isin[i] = byte(b + i)
		}
		for i := range lei {
			lei[i] = byte(b - 7*i)
		}
		if got := codes.Text(isin); got != string(isin[:]) {
			t.Errorf("Text(%v) is %q", isin, got)
		}
		if got := codes.Text(lei); got != string(lei[:]) {
			t.Errorf("Text(%v) is %q", lei, got)
		}
	}
}

// P2.8 (that one digit and one pair are taken alone stands with P2.2 and P2.4)

func TestTextOfWhatIsTaken(t *testing.T) {
	x := noise(5)
	for range 3000 {
		s := x.isin(t)
		if got, err := codes.Isin(s); err != nil || codes.Text(got) != s {
			t.Fatalf("Isin(%q) is %q, %v", s, got, err)
		}
		s = x.lei(t)
		if got, err := codes.Lei(s); err != nil || codes.Text(got) != s {
			t.Fatalf("Lei(%q) is %q, %v", s, got, err)
		}
	}
}

func TestIdentifiersAreValues(t *testing.T) {
	one, _ := codes.Isin("US0378331005")
	same, _ := codes.Isin("US" + "0378331005")
	other, _ := codes.Isin("GB0002634946")
	if one != same || one == other {
		t.Error("equal texts must be equal identifiers, and others not")
	}
	a, _ := codes.Lei("7LTWFZYICNSX8D621K86")
	b, _ := codes.Lei("INR2EJN1ERAN0W5ZP974")
	if a == b {
		t.Error("two LEI are the same")
	}
}

// P2.9

func TestIsinTellsOneDigit(t *testing.T) {
	x := noise(6)
	isin := calls()[0]
	for range 1000 {
		s := x.isin(t)
		for i := range s {
			for _, d := range []byte(digits) {
				if isOne(s[i], digits) && d != s[i] {
					isin.refuses(t, put(s, i, d), api.ErrSum, nowhere)
				}
			}
		}
	}
}

func TestIsinTellsTwoDigits(t *testing.T) {
	x := noise(7)
	isin := calls()[0]
	unseen := 0
	for range 3000 {
		s := x.isin(t)
		for i := range len(s) - 1 {
			pair := s[i : i+2]
			if !isOne(s[i], digits) || !isOne(s[i+1], digits) || s[i] == s[i+1] {
				continue
			}
			if pair != "09" && pair != "90" {
				isin.refuses(t, swapped(s, i), api.ErrSum, nowhere)
				continue
			}
			unseen++
			if _, err := codes.Isin(swapped(s, i)); err != nil {
				t.Errorf("Isin(%q) is %v; 0 and 9 count the same in both places", swapped(s, i), err)
			}
		}
	}
	if unseen == 0 {
		t.Error("0 and 9 never stood side by side")
	}
}

// P2.10

func TestLeiTellsOneSign(t *testing.T) {
	x := noise(8)
	lei := calls()[2]
	for range 300 {
		s := x.lei(t)
		for i := range s {
			kind := digits
			if isOne(s[i], capitals) {
				kind = capitals
			}
			for _, b := range []byte(kind) {
				if b != s[i] {
					lei.refuses(t, put(s, i, b), api.ErrSum, nowhere)
				}
			}
		}
	}
}

func TestLeiTellsTwoSigns(t *testing.T) {
	x := noise(9)
	lei := calls()[2]
	for range 3000 {
		s := x.lei(t)
		for i := range len(s) - 1 {
			if isOne(s[i], digits) == isOne(s[i+1], digits) && s[i] != s[i+1] {
				lei.refuses(t, swapped(s, i), api.ErrSum, nowhere)
			}
		}
	}
	if one, other := leiPair("000000000000001B00"), leiPair("00000000000000B100"); one != other {
		t.Errorf("a digit and a capital: %s, %s", one, other)
	}
	for _, s := range []string{"000000000000001B0069", "00000000000000B10069"} {
		if _, err := codes.Lei(s); err != nil {
			t.Errorf("Lei(%q) is %v", s, err)
		}
	}
}

// noise is a row of numbers that look like nothing, the same each time.
type noise uint64

func (x *noise) next() uint64 {
	*x ^= *x << 13
	*x ^= *x >> 7
	*x ^= *x << 17
	return uint64(*x)
}

// text is a text of a form; digits and capitals are met about alike where both may stand, 0 and 9 more often than others.
func (x *noise) text(form string) string {
	out := make([]byte, len(form))
	for i := range out {
		from := stands(form[i])
		switch x.next() % 8 {
		case 0:
			if from == signs {
				from = "09"
			}
		case 1, 2, 3:
			if from == signs {
				from = digits
			}
		}
		out[i] = from[x.next()%uint64(len(from))]
	}
	return string(out)
}

// isin is a text that Isin takes.
func (x *noise) isin(t *testing.T) string {
	t.Helper()
	head := x.text("CCSSSSSSSSS")
	digit, err := codes.IsinDigit(head)
	if err != nil {
		t.Fatalf("IsinDigit(%q): %v", head, err)
	}
	return head + string([]byte{digit})
}

// lei is a text that Lei takes.
func (x *noise) lei(t *testing.T) string {
	t.Helper()
	head := x.text("SSSSSSSSSSSSSSSSSS")
	pair, err := codes.LeiDigits(head)
	if err != nil {
		t.Fatalf("LeiDigits(%q): %v", head, err)
	}
	return head + pair
}
