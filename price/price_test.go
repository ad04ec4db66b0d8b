package price_test

import (
	"math"
	"math/big"
	"slices"
	"testing"

	"custody/api"
	"custody/calendar"
	"custody/price"
	"custody/proof"
)

const (
	most    = math.MaxInt64
	least   = math.MinInt64
	lastDay = 3652059 // 31 December 9999
)

// modes and bases: all that there are; the wrong ones are those about them and those far away.
var (
	modes      = []int{api.Down, api.Up, api.HalfUp, api.HalfEven}
	bases      = []int{api.Act360, api.Act365, api.Thirty, api.ThirtyEu}
	wrongFours = []int{-1, 4, -4, 5, 256, 1 << 32, math.MaxInt, math.MinInt}
	pers       = []int{1, 2, 4, 12}
	wrongPers  = []int{0, 3, 13, -1, -2, -12, 5, 6, 8, 11, 24, 1<<32 + 1, math.MaxInt, math.MinInt}
	noDays     = []int{0, lastDay + 1, -1, -738535, 1<<32 + 738535, math.MaxInt, math.MinInt}
)

// holds checks an amount and an error that a call answered; beside an error the amount must be 0.
func holds(t *testing.T, call string, args any, got int64, err error, want int64, no api.Errno) {
	t.Helper()
	if no != api.OK {
		want = 0
	}
	if got != want || !proof.Tells(err, no) {
		t.Errorf("%s %v is %d, %v; want %d, %v", call, args, got, err, want, no)
	}
}

// noise is a row of numbers that is the same in each run.
type noise uint64

func (x *noise) word() uint64 {
	*x ^= *x << 13
	*x ^= *x >> 7
	*x ^= *x << 17
	return uint64(*x)
}

func (x *noise) next(n int) int { return int(x.word() >> 1 % uint64(n)) }

// amount is an amount of any width, the greatest ones too.
func (x *noise) amount() int64 {
	switch x.next(16) {
	case 0:
		return 0
	case 1:
		return most - int64(x.next(3))
	}
	return int64(x.word() >> (1 + x.next(62)))
}

func one[T any](x *noise, l []T) T { return l[x.next(len(l))] }

// isin is a text of twelve bytes as a code.
func isin(s string) (c api.Isin) {
	copy(c[:], s)
	return c
}

// day is the number of a date, counted month by month.
func day(year, month, d int) int {
	n := 365*(year-1) + (year-1)/4 - (year-1)/100 + (year-1)/400
	for m := 1; m < month; m++ {
		n += size(year, m)
	}
	return n + d
}

// size is how many days a month has.
func size(year, month int) int {
	switch month {
	case 4, 6, 9, 11:
		return 30
	case 2:
		if year%400 == 0 || year%100 != 0 && year%4 == 0 {
			return 29
		}
		return 28
	}
	return 31
}

// date is the date of a day.
func date(t testing.TB, n int) api.Date {
	t.Helper()
	d, err := calendar.Of(n)
	if err != nil {
		t.Fatalf("Of(%d): %v", n, err)
	}
	return d
}

func equity() api.Security {
	return api.Security{Code: isin("US0378331005"), Kind: api.Equity, Currency: "EUR"}
}

func cash() api.Security { return api.Security{Kind: api.Cash, Currency: "EUR"} }

// bond is the chapter's b.
func bond() api.Security {
	return api.Security{Code: isin("US0378331005"), Kind: api.Bond, Face: 100000, Coupon: 50000, Per: 2, Basis: api.Thirty, Start: 738535, End: 739447, Currency: "EUR"}
}

// bill is the chapter's t.
func bill() api.Security {
	return api.Security{Code: isin("US0378331005"), Kind: api.Bill, Face: 100000, Basis: api.Act360, Start: 738886, End: 738976, Currency: "EUR"}
}

// every is a right security of each kind.
func every() []api.Security { return []api.Security{equity(), bond(), bill(), cash()} }

// with is a security that is changed.
func with(s api.Security, turn func(s *api.Security)) api.Security {
	turn(&s)
	return s
}

// P4.1

func TestCheckTakesEachKind(t *testing.T) {
	for _, s := range every() {
		if err := price.Check(s); err != nil {
			t.Errorf("Check of %v is %v", s, err)
		}
	}
}

func TestCheckKind(t *testing.T) {
	for _, kind := range []int{0, 5, -1, -2, 6, 256 + 1, 1<<32 + 1, math.MaxInt, math.MinInt} {
		for _, s := range every() {
			s.Kind = kind
			// whatever else is wrong, the kind is told
			for _, turn := range []func(s *api.Security){
				func(s *api.Security) {},
				func(s *api.Security) { s.Code = isin("us0378331005") },
				func(s *api.Security) { s.Currency = "" },
				func(s *api.Security) { s.Face, s.Coupon, s.Per = -1, -1, -1 },
				func(s *api.Security) { *s = api.Security{Kind: kind} },
			} {
				if err := price.Check(with(s, turn)); !proof.Tells(err, api.ErrKind) {
					t.Errorf("Check of kind %d is %v", kind, err)
				}
			}
		}
	}
}

func TestCheckCode(t *testing.T) {
	right := []string{"US0378331005", "DE000BAY0017", "GB0002634946", "XS0000000009"}
	refused := []string{"US0378331004", "us0378331005", "US037833100X", "1S0378331005", "US 378331005", "US037833100\x00", "000000000000"}
	zeros, ones := string(make([]byte, 12)), "\xff\xff\xff\xff\xff\xff\xff\xff\xff\xff\xff\xff"
	check := func(s api.Security, code string, no api.Errno) {
		t.Helper()
		s.Code = isin(code)
		if err := price.Check(s); !proof.Tells(err, no) {
			t.Errorf("Check of kind %d with the code %q is %v; want %v", s.Kind, code, err, no)
		}
		s.Face, s.Per, s.Currency = -1, 3, "EU" // are looked at later
		if err := price.Check(s); !proof.Tells(err, api.ErrForm) {
			t.Errorf("Check of kind %d with the code %q and more that is wrong is %v", s.Kind, code, err)
		}
	}
	for _, s := range []api.Security{equity(), bond(), bill()} {
		for _, c := range right {
			check(s, c, api.OK)
		}
		for _, c := range append(refused, zeros, ones) {
			check(s, c, api.ErrForm)
		}
	}
	check(cash(), zeros, api.OK)
	for _, c := range slices.Concat(right, refused, []string{ones}) {
		check(cash(), c, api.ErrForm)
	}
}

func TestCheckEachByteOfCash(t *testing.T) {
	for i := range 12 {
		for _, b := range []byte{1, '0', 'A', 255} {
			s := cash()
			s.Code[i] = b
			if err := price.Check(s); !proof.Tells(err, api.ErrForm) {
				t.Errorf("Check of cash with the byte %d at %d is %v", b, i, err)
			}
		}
	}
}

func TestCheckCurrency(t *testing.T) {
	for _, s := range every() {
		for _, c := range []string{"", "E", "EU", "EURO", "eur", "E1R", "EU ", "€"} {
			s.Currency = c
			if err := price.Check(s); !proof.Tells(err, api.ErrForm) {
				t.Errorf("Check of kind %d with the currency %q is %v", s.Kind, c, err)
			}
			wrong := with(s, func(s *api.Security) { s.Face, s.Per = -1, 3 })
			if err := price.Check(wrong); !proof.Tells(err, api.ErrForm) {
				t.Errorf("Check of kind %d with the currency %q and wrong terms is %v", s.Kind, c, err)
			}
		}
		for _, c := range []string{"EUR", "USD", "ZZZ", "AAA"} {
			s.Currency = c
			if err := price.Check(s); err != nil {
				t.Errorf("Check of kind %d with the currency %q is %v", s.Kind, c, err)
			}
		}
	}
}

func TestCheckSimple(t *testing.T) {
	for _, s := range []api.Security{equity(), cash()} {
		for _, n := range []int{1, -1, 2, 738535, math.MaxInt, math.MinInt} {
			for i, turn := range []func(s *api.Security){
				func(s *api.Security) { s.Face = int64(n) },
				func(s *api.Security) { s.Coupon = int64(n) },
				func(s *api.Security) { s.Per = n },
				func(s *api.Security) { s.Basis = n },
				func(s *api.Security) { s.Start = n },
				func(s *api.Security) { s.End = n },
			} {
				if err := price.Check(with(s, turn)); !proof.Tells(err, api.ErrArg) {
					t.Errorf("Check of kind %d with field %d as %d is %v", s.Kind, i, n, err)
				}
			}
		}
	}
}

func TestCheckTerms(t *testing.T) {
	for _, x := range []struct {
		what string
		s    api.Security
		turn func(s *api.Security)
		no   api.Errno
	}{
		{"face 0", bond(), func(s *api.Security) { s.Face = 0 }, api.ErrAmount},
		{"face 0", bill(), func(s *api.Security) { s.Face = 0 }, api.ErrAmount},
		{"face -1", bond(), func(s *api.Security) { s.Face = -1 }, api.ErrAmount},
		{"the least face", bill(), func(s *api.Security) { s.Face = least }, api.ErrAmount},
		{"face 1", bond(), func(s *api.Security) { s.Face = 1 }, api.OK},
		{"face 1", bill(), func(s *api.Security) { s.Face = 1 }, api.OK},
		{"the greatest face", bond(), func(s *api.Security) { s.Face = most }, api.OK},
		{"the greatest face", bill(), func(s *api.Security) { s.Face = most }, api.OK},
		{"coupon -1", bond(), func(s *api.Security) { s.Coupon = -1 }, api.ErrArg},
		{"coupon 0", bond(), func(s *api.Security) { s.Coupon = 0 }, api.OK},
		{"coupon 1", bond(), func(s *api.Security) { s.Coupon = 1 }, api.OK},
		{"coupon 1000000", bond(), func(s *api.Security) { s.Coupon = 1000000 }, api.OK},
		{"coupon 1000001", bond(), func(s *api.Security) { s.Coupon = 1000001 }, api.ErrArg},
		{"the greatest coupon", bond(), func(s *api.Security) { s.Coupon = most }, api.ErrArg},
		{"the least coupon", bond(), func(s *api.Security) { s.Coupon = least }, api.ErrArg},
		{"a coupon", bill(), func(s *api.Security) { s.Coupon = 1 }, api.ErrArg},
		{"a coupon below 0", bill(), func(s *api.Security) { s.Coupon = -1 }, api.ErrArg},
		{"per", bill(), func(s *api.Security) { s.Per = 1 }, api.ErrArg},
		{"per below 0", bill(), func(s *api.Security) { s.Per = -1 }, api.ErrArg},
		{"days that are the same", bond(), func(s *api.Security) { s.End = s.Start }, api.ErrDate},
		{"days that are the same", bill(), func(s *api.Security) { s.End = s.Start }, api.ErrDate},
		{"days the wrong way round", bond(), func(s *api.Security) { s.Start, s.End = s.End, s.Start }, api.ErrDate},
		{"days the wrong way round", bill(), func(s *api.Security) { s.Start, s.End = s.End, s.Start }, api.ErrDate},
		{"days by one the wrong way round", bond(), func(s *api.Security) { s.End = s.Start - 1 }, api.ErrDate},
		{"a day apart", bond(), func(s *api.Security) { s.End = s.Start + 1 }, api.OK},
		{"a day apart", bill(), func(s *api.Security) { s.End = s.Start + 1 }, api.OK},
		{"the first day and the last", bond(), func(s *api.Security) { s.Start, s.End = 1, lastDay }, api.OK},
		{"the first day and the last", bill(), func(s *api.Security) { s.Start, s.End = 1, lastDay }, api.OK},
		// which is told where several apply
		{"face and coupon", bond(), func(s *api.Security) { s.Face, s.Coupon = 0, -1 }, api.ErrAmount},
		{"face and per", bond(), func(s *api.Security) { s.Face, s.Per = 0, 3 }, api.ErrAmount},
		{"face and basis", bond(), func(s *api.Security) { s.Face, s.Basis = 0, 4 }, api.ErrAmount},
		{"face and days", bond(), func(s *api.Security) { s.Face, s.End = 0, 0 }, api.ErrAmount},
		{"coupon and days", bond(), func(s *api.Security) { s.Coupon, s.End = -1, 0 }, api.ErrArg},
		{"per and days", bond(), func(s *api.Security) { s.Per, s.Start = 5, 0 }, api.ErrArg},
		{"basis and days", bond(), func(s *api.Security) { s.Basis, s.End = -1, s.Start }, api.ErrArg},
		{"face and coupon", bill(), func(s *api.Security) { s.Face, s.Coupon = 0, 1 }, api.ErrAmount},
		{"face and basis", bill(), func(s *api.Security) { s.Face, s.Basis = 0, 4 }, api.ErrAmount},
		{"face and days", bill(), func(s *api.Security) { s.Face, s.End = 0, 0 }, api.ErrAmount},
		{"coupon and days", bill(), func(s *api.Security) { s.Coupon, s.End = 1, 0 }, api.ErrArg},
		{"per and days", bill(), func(s *api.Security) { s.Per, s.End = 1, 0 }, api.ErrArg},
		{"basis and days", bill(), func(s *api.Security) { s.Basis, s.End = 4, 0 }, api.ErrArg},
	} {
		if err := price.Check(with(x.s, x.turn)); !proof.Tells(err, x.no) {
			t.Errorf("Check of kind %d, %s: %v; want %v", x.s.Kind, x.what, err, x.no)
		}
	}
}

func TestCheckPerBasisDays(t *testing.T) {
	check := func(s api.Security, no api.Errno) {
		t.Helper()
		if err := price.Check(s); !proof.Tells(err, no) {
			t.Errorf("Check of %v is %v; want %v", s, err, no)
		}
	}
	for _, per := range pers {
		check(with(bond(), func(s *api.Security) { s.Per = per }), api.OK)
	}
	for _, per := range wrongPers {
		check(with(bond(), func(s *api.Security) { s.Per = per }), api.ErrArg)
	}
	for _, s := range []api.Security{bond(), bill()} {
		for _, basis := range bases {
			check(with(s, func(s *api.Security) { s.Basis = basis }), api.OK)
		}
		for _, basis := range wrongFours {
			check(with(s, func(s *api.Security) { s.Basis = basis }), api.ErrArg)
		}
		for _, n := range noDays {
			check(with(s, func(s *api.Security) { s.Start = n }), api.ErrDate)
			check(with(s, func(s *api.Security) { s.End = n }), api.ErrDate)
			for _, m := range noDays {
				check(with(s, func(s *api.Security) { s.Start, s.End = n, m }), api.ErrDate)
			}
		}
	}
}

// wrong is what Check should tell: the document's list, gone through in its order.
func wrong(s api.Security) api.Errno {
	simple, bonds := s.Kind == api.Equity || s.Kind == api.Cash, s.Kind == api.Bond
	day := func(n int) bool { return 1 <= n && n <= lastDay }
	for _, x := range []struct {
		is bool
		no api.Errno
	}{
		{s.Kind < 1 || s.Kind > 4, api.ErrKind},
		{s.Kind == api.Cash && s.Code != api.Isin{}, api.ErrForm},
		{s.Kind != api.Cash && s.Code != isin("US0378331005"), api.ErrForm},
		{s.Currency != "EUR", api.ErrForm},
		{simple && (s.Face != 0 || s.Coupon != 0 || s.Per != 0 || s.Basis != 0 || s.Start != 0 || s.End != 0), api.ErrArg},
		{!simple && s.Face < 1, api.ErrAmount},
		{bonds && (s.Coupon < 0 || s.Coupon > 1000000), api.ErrArg},
		{bonds && !slices.Contains(pers, s.Per), api.ErrArg},
		{!simple && !bonds && (s.Coupon != 0 || s.Per != 0), api.ErrArg},
		{!simple && !slices.Contains(bases, s.Basis), api.ErrArg},
		{!simple && (!day(s.Start) || !day(s.End) || s.End <= s.Start), api.ErrDate},
	} {
		if x.is {
			return x.no
		}
	}
	return api.OK
}

// anyhow is a security of which each field may be wrong, and mostly is right.
func anyhow(x *noise) api.Security {
	s := one(x, every())
	for range x.next(4) {
		switch x.next(9) {
		case 0:
			s.Kind = one(x, []int{0, 1, 2, 3, 4, 5, -1})
		case 1:
			s.Code = one(x, []api.Isin{{}, isin("US0378331005"), isin("US0378331004"), isin("us0378331005")})
		case 2:
			s.Currency = one(x, []string{"EUR", "", "eur", "EU", "EURO"})
		case 3:
			s.Face = one(x, []int64{-1, 0, 1, 7, most, least})
		case 4:
			s.Coupon = one(x, []int64{-1, 0, 1, 1000000, 1000001})
		case 5:
			s.Per = one(x, []int{-1, 0, 1, 2, 3, 4, 12, 13})
		case 6:
			s.Basis = one(x, []int{-1, 0, 1, 2, 3, 4})
		case 7:
			s.Start = one(x, []int{-1, 0, 1, 738535, 739446, 739447, 739448, lastDay, lastDay + 1})
		case 8:
			s.End = one(x, []int{-1, 0, 1, 2, 738534, 738535, 738536, lastDay, lastDay + 1})
		}
	}
	return s
}

func TestCheckAnyhow(t *testing.T) {
	x := noise(41)
	seen := map[api.Errno]int{}
	for range 200000 {
		s := anyhow(&x)
		no := wrong(s)
		seen[no]++
		if err := price.Check(s); !proof.Tells(err, no) {
			t.Fatalf("Check of %v is %v; want %v", s, err, no)
		}
	}
	for _, no := range []api.Errno{api.OK, api.ErrKind, api.ErrForm, api.ErrArg, api.ErrAmount, api.ErrDate} {
		if seen[no] < 1000 {
			t.Errorf("%v came %d times only", no, seen[no])
		}
	}
}

// P4.2, P4.10

// ahead is the day so many months ahead of a day, counted month by month; false where there is none.
func ahead(t testing.TB, n, months int) (int, bool) {
	d := date(t, n)
	year, month := d.Year, d.Month
	for range months {
		month--
		if month == 0 {
			year, month = year-1, 12
		}
	}
	if year < 1 {
		return 0, false
	}
	return day(year, month, min(d.Day, size(year, month))), true
}

// couponDays are the coupon days as the chapter tells them, from End on.
func couponDays(t testing.TB, s api.Security) []int {
	var l []int
	for k := 0; ; k++ {
		n, ok := ahead(t, s.End, k*(12/s.Per))
		if !ok || n <= s.Start {
			slices.Sort(l)
			return l
		}
		l = append(l, n)
	}
}

func TestCoupons(t *testing.T) {
	for _, x := range []struct {
		what            string
		start, end, per int
		want            []int
	}{
		{"the chapter's", 738535, 739447, 2, []int{day(2023, 7, 15), day(2024, 1, 15), day(2024, 7, 15), day(2025, 1, 15), day(2025, 7, 15)}},
		{"Start a day behind a coupon day", day(2024, 7, 15), day(2025, 7, 14), 2, []int{day(2025, 1, 14), day(2025, 7, 14)}},
		{"Start on a coupon day", day(2024, 7, 15), day(2025, 7, 15), 2, []int{day(2025, 1, 15), day(2025, 7, 15)}},
		{"Start a day ahead of one", day(2024, 7, 14), day(2025, 7, 15), 2, []int{day(2024, 7, 15), day(2025, 1, 15), day(2025, 7, 15)}},
		{"End alone: a day", 738535, 738536, 12, []int{738536}},
		{"End alone: just a month", day(2024, 2, 29), day(2024, 3, 31), 12, []int{day(2024, 3, 31)}},
		{"End alone: a year", day(2023, 3, 1), day(2024, 3, 1), 1, []int{day(2024, 3, 1)}},
		{"a year and a day", day(2023, 2, 28), day(2024, 3, 1), 1, []int{day(2023, 3, 1), day(2024, 3, 1)}},
		{"a month's last day", day(2023, 11, 30), day(2024, 5, 31), 12, []int{day(2023, 12, 31), day(2024, 1, 31), day(2024, 2, 29), day(2024, 3, 31), day(2024, 4, 30), day(2024, 5, 31)}},
		{"a month's last day, quarters", day(2022, 11, 29), day(2024, 2, 29), 4, []int{day(2023, 2, 28), day(2023, 5, 29), day(2023, 8, 29), day(2023, 11, 29), day(2024, 2, 29)}},
		{"29 February, years", day(2019, 2, 27), day(2024, 2, 29), 1, []int{day(2019, 2, 28), day(2020, 2, 29), day(2021, 2, 28), day(2022, 2, 28), day(2023, 2, 28), day(2024, 2, 29)}},
		{"31 August, halves", day(2023, 2, 27), day(2024, 8, 31), 2, []int{day(2023, 2, 28), day(2023, 8, 31), day(2024, 2, 29), day(2024, 8, 31)}},
		{"ahead of the first day", 1, 32, 12, []int{32}},
		{"31 January of the year 1", 1, day(1, 3, 31), 12, []int{31, day(1, 2, 28), day(1, 3, 31)}},
		{"no day ahead of January of the year 1", 1, day(1, 1, 15), 12, []int{15}},
		{"no day in the year 0", 1, day(1, 7, 2), 2, []int{2, day(1, 7, 2)}},
		{"no day in the year 0, by quarters", 1, day(1, 3, 31), 4, []int{day(1, 3, 31)}},
		{"no day in the year 0, by years", 1, day(1, 12, 31), 1, []int{day(1, 12, 31)}},
	} {
		s := with(bond(), func(s *api.Security) { s.Start, s.End, s.Per = x.start, x.end, x.per })
		got, err := price.Coupons(s)
		if !slices.Equal(got, x.want) || err != nil {
			t.Errorf("Coupons, %s: %v, %v; want %v", x.what, got, err, x.want)
		}
		if !slices.Equal(couponDays(t, s), x.want) {
			t.Errorf("the second reckoning, %s: %v; want %v", x.what, couponDays(t, s), x.want)
		}
	}
}

func TestCouponsRefuses(t *testing.T) {
	for _, s := range []api.Security{equity(), bill(), cash()} {
		if l, err := price.Coupons(s); l != nil || !proof.Tells(err, api.ErrKind) {
			t.Errorf("Coupons of kind %d is %v, %v", s.Kind, l, err)
		}
	}
	x := noise(42)
	for range 20000 {
		s := anyhow(&x)
		no := wrong(s)
		if no == api.OK && s.Kind != api.Bond {
			no = api.ErrKind
		}
		if s.End-s.Start > 5000 { // long ones have a test of their own
			continue
		}
		l, err := price.Coupons(s)
		if !proof.Tells(err, no) || (err != nil && l != nil) || (err == nil && len(l) == 0) {
			t.Fatalf("Coupons of %v is %v, %v; want %v", s, l, err, no)
		}
	}
}

// bonds calls f with bonds of all sorts, the chapter's first: all bases and numbers a year; ends at the months' ends; at both ends of time.
func bonds(f func(x *noise, s api.Security)) {
	x := noise(43)
	f(&x, bond())
	for i := range 3000 {
		s := bond()
		s.Basis, s.Per = bases[i%4], pers[i/4%4]
		s.Face, s.Coupon = 1+x.amount()>>1, int64(x.next(1000001))
		year := 1 + x.next(9999)
		if i%16 == 0 {
			year = 1 + x.next(3)
		}
		month := 1 + x.next(12)
		d := 1 + x.next(size(year, month))
		if x.next(3) == 0 {
			d = size(year, month)
		}
		s.End = max(2, day(year, month, d))
		s.Start = max(1, s.End-1-x.next(1500))
		f(&x, s)
	}
}

func TestCouponsOfManyBonds(t *testing.T) {
	bonds(func(x *noise, s api.Security) {
		got, err := price.Coupons(s)
		if want := couponDays(t, s); !slices.Equal(got, want) || err != nil {
			t.Errorf("Coupons of %v is %v, %v; want %v", s, got, err, want)
		}
		// P4.10
		if len(got) == 0 || got[0] <= s.Start || got[len(got)-1] != s.End {
			t.Fatalf("Coupons of %v: %v does not begin behind Start and end with End", s, got)
		}
		for i, n := range got {
			if i > 0 && n <= got[i-1] {
				t.Errorf("Coupons of %v: %v does not rise", s, got)
			}
			if m, err := calendar.Months(s.End, -(len(got)-1-i)*12/s.Per); m != n || err != nil {
				t.Errorf("Coupons of %v: %d is not as many months ahead of End as its place tells: %d, %v", s, n, m, err)
			}
		}
		if m, err := calendar.Months(s.End, -len(got)*12/s.Per); err == nil && m > s.Start {
			t.Errorf("Coupons of %v: %d is missing", s, m)
		}
	})
}

func TestCouponsOfTheLongest(t *testing.T) {
	for _, x := range []struct{ start, per, want int }{
		{1, 12, 12 * 9999}, {1, 4, 4 * 9999}, {1, 2, 2 * 9999}, {1, 1, 9999},
		{31, 12, 12*9999 - 1}, {30, 12, 12 * 9999}, {365, 1, 9998}, {364, 1, 9999},
	} {
		s := with(bond(), func(s *api.Security) { s.Start, s.End, s.Per = x.start, lastDay, x.per })
		l, err := price.Coupons(s)
		if len(l) != x.want || err != nil {
			t.Fatalf("Coupons from %d, %d a year: %d, %v; want %d", x.start, x.per, len(l), err, x.want)
		}
		for i, n := range l {
			back := len(l) - 1 - i
			month := 12*9999 - 1 - back*12/x.per
			year := month/12 + 1
			if want := day(year, month%12+1, size(year, month%12+1)); n != want {
				t.Fatalf("Coupons from %d, %d a year: %d at %d; want %d", x.start, x.per, n, i, want)
			}
		}
	}
}

func TestCouponsAreNewMemory(t *testing.T) {
	first, _ := price.Coupons(bond())
	second, _ := price.Coupons(bond())
	want := slices.Clone(first)
	for i := range first[:cap(first)] {
		first[:cap(first)][i] = -1
	}
	third, _ := price.Coupons(bond())
	if !slices.Equal(second, want) || !slices.Equal(third, want) {
		t.Errorf("answers hang on one another: %v, %v; want %v", second, third, want)
	}
}

// P4.3

// near is a quotient of whole numbers rounded by a mode, as the words of the modes say: of the whole numbers about it, by what lies between.
func near(above, below *big.Int, mode int) *big.Int {
	down := new(big.Int).Div(above, below)
	up := new(big.Int).Add(down, big.NewInt(1))
	under := new(big.Int).Sub(above, new(big.Int).Mul(down, below)) // so far the quotient lies above down, times below
	over := new(big.Int).Sub(new(big.Int).Mul(up, below), above)
	if under.Sign() == 0 || mode == api.Down {
		return down
	}
	if mode == api.Up {
		return up
	}
	switch c := under.Cmp(over); {
	case c < 0:
		return down
	case c > 0 || mode == api.HalfUp || down.Bit(0) == 1:
		return up
	}
	return down
}

// told is an exact answer: ErrOver where it is above MaxAmount.
func told(n *big.Int) (int64, api.Errno) {
	if n.Cmp(big.NewInt(most)) > 0 {
		return 0, api.ErrOver
	}
	return n.Int64(), api.OK
}

func times(l ...int64) *big.Int {
	p := big.NewInt(1)
	for _, n := range l {
		p.Mul(p, big.NewInt(n))
	}
	return p
}

// year is the part of a year between two days, as chapter 3's table says.
func year(t testing.TB, a, b, basis int) (int64, int64) {
	if basis == api.Act360 {
		return int64(b - a), 360
	}
	if basis == api.Act365 {
		return int64(b - a), 365
	}
	from, to := date(t, a), date(t, b)
	if from.Day == 31 {
		from.Day = 30
	}
	if to.Day == 31 && (from.Day == 30 || basis == api.ThirtyEu) {
		to.Day = 30
	}
	return int64(360*(to.Year-from.Year) + 30*(to.Month-from.Month) + to.Day - from.Day), 360
}

// interest is what Accrued should answer of a right bond and right arguments: l are its coupon days.
func interest(t testing.TB, s api.Security, l []int, qty int64, n, mode int) (int64, api.Errno) {
	from := s.Start
	for _, c := range l {
		if c <= n {
			from = c
		}
	}
	above, below := year(t, from, n, s.Basis)
	return told(near(times(qty, s.Face, s.Coupon, above), times(1000000, below), mode))
}

func TestAccruedExamples(t *testing.T) {
	for _, x := range []struct {
		qty       int64
		day, mode int
		want      int64
		no        api.Errno
	}{
		{10, day(2024, 1, 15), api.Down, 0, api.OK},
		{10, day(2024, 4, 14), api.HalfUp, 12361, api.OK},
		{10, day(2024, 7, 14), api.Down, 24861, api.OK},
		{10, day(2025, 7, 16), api.Down, 0, api.ErrDate},
		{-1, day(2025, 7, 16), api.Down, 0, api.ErrArg},
		// 89 / 360 of 50000 is 12361.1..
		{10, day(2024, 4, 14), api.Down, 12361, api.OK},
		{10, day(2024, 4, 14), api.Up, 12362, api.OK},
		{10, day(2024, 4, 14), api.HalfEven, 12361, api.OK},
		// 179 / 360: 24861.1..
		{10, day(2024, 7, 14), api.Up, 24862, api.OK},
		// 1 / 360 of 50000 is 138.8..
		{10, day(2024, 1, 16), api.Down, 138, api.OK},
		{10, day(2024, 1, 16), api.HalfUp, 139, api.OK},
		{10, day(2024, 1, 16), api.HalfEven, 139, api.OK},
		// 9 / 360 of 20000 is 500, of 5000 125
		{4, day(2024, 1, 24), api.Up, 500, api.OK},
		{1, day(2024, 1, 24), api.Down, 125, api.OK},
		// on Start, a day behind it; on End, a day ahead of it
		{10, 738535, api.Up, 0, api.OK},
		{10, 738536, api.Up, 139, api.OK},
		{10, 739447, api.Up, 0, api.OK},
		{10, 739446, api.Down, 24861, api.OK},
		{10, 738534, api.Down, 0, api.ErrDate},
		{10, 739448, api.Down, 0, api.ErrDate},
		{0, day(2024, 4, 14), api.Up, 0, api.OK},
		{0, 739448, api.Up, 0, api.ErrDate},
		{most, day(2024, 4, 14), api.Down, 0, api.ErrOver},
		{most, day(2024, 1, 15), api.Up, 0, api.OK},
	} {
		got, err := price.Accrued(bond(), x.qty, x.day, x.mode)
		holds(t, "Accrued", x, got, err, x.want, x.no)
	}
}

func TestAccruedHalves(t *testing.T) {
	// 18 / 360 of a coupon of 5010 is 250.5, of 5030 it is 251.5.
	for _, x := range []struct {
		face int64
		want [4]int64
	}{{100200, [4]int64{250, 251, 251, 250}}, {100600, [4]int64{251, 252, 252, 252}}} {
		s := with(bond(), func(s *api.Security) { s.Face = x.face })
		for _, mode := range modes {
			got, err := price.Accrued(s, 1, day(2024, 2, 3), mode)
			holds(t, "Accrued", []any{x.face, mode}, got, err, x.want[mode], api.OK)
		}
	}
}

func TestAccruedByBasis(t *testing.T) {
	// From 31 January to 31 March 2024 are 60 days, from 31 January to 1 March 30 (31 if months have thirty).
	s := with(bond(), func(s *api.Security) {
		s.Coupon, s.Per, s.Start, s.End = 1000000, 1, day(2023, 1, 31), day(2025, 1, 31)
	})
	for _, x := range []struct {
		day  int
		want [4]int64 // by basis, of 360 x 365 the whole year's
	}{
		{day(2024, 3, 31), [4]int64{60 * 365, 60 * 360, 60 * 365, 60 * 365}},
		{day(2024, 3, 1), [4]int64{30 * 365, 30 * 360, 31 * 365, 31 * 365}},
		{day(2024, 2, 29), [4]int64{29 * 365, 29 * 360, 29 * 365, 29 * 365}},
		{day(2024, 12, 31), [4]int64{335 * 365, 335 * 360, 330 * 365, 330 * 365}},
		{day(2025, 1, 30), [4]int64{365 * 365, 365 * 360, 360 * 365, 360 * 365}},
		{day(2024, 1, 31), [4]int64{}},
		{day(2024, 1, 30), [4]int64{364 * 365, 364 * 360, 360 * 365, 360 * 365}},
		{day(2023, 3, 15), [4]int64{43 * 365, 43 * 360, 45 * 365, 45 * 365}},
	} {
		for _, basis := range bases {
			for _, mode := range modes {
				s.Basis, s.Face = basis, 360*365
				got, err := price.Accrued(s, 1, x.day, mode)
				holds(t, "Accrued", []any{x.day, basis, mode}, got, err, x.want[basis], api.OK)
			}
		}
	}
}

func TestAccruedFromCouponDaysAtMonthsEnds(t *testing.T) {
	// Ends on 31 May: interest is paid on 29 February and 30 April too.
	s := with(bond(), func(s *api.Security) {
		s.Coupon, s.Per, s.Basis, s.Face, s.Start, s.End = 1000000, 12, api.Act360, 360, day(2023, 11, 30), day(2024, 5, 31)
	})
	for _, x := range []struct{ day, want int }{
		{day(2023, 11, 30), 0}, {day(2023, 12, 1), 1}, {day(2023, 12, 30), 30}, {day(2023, 12, 31), 0},
		{day(2024, 1, 30), 30}, {day(2024, 1, 31), 0}, {day(2024, 2, 28), 28}, {day(2024, 2, 29), 0}, {day(2024, 3, 1), 1},
		{day(2024, 3, 30), 30}, {day(2024, 3, 31), 0}, {day(2024, 4, 29), 29}, {day(2024, 4, 30), 0}, {day(2024, 5, 30), 30}, {day(2024, 5, 31), 0},
	} {
		got, err := price.Accrued(s, 1, x.day, api.Down)
		holds(t, "Accrued", x, got, err, int64(x.want), api.OK)
	}
}

func TestAccruedOfTheFirstDays(t *testing.T) {
	// The coupon days that would lie ahead of the first day are none: interest has accrued from Start.
	s := with(bond(), func(s *api.Security) {
		s.Coupon, s.Per, s.Basis, s.Face, s.Start, s.End = 1000000, 12, api.Act360, 360, 1, day(1, 2, 20)
	})
	for _, x := range []struct{ day, want int }{{1, 0}, {2, 1}, {19, 18}, {20, 0}, {21, 1}, {50, 30}, {51, 0}} {
		got, err := price.Accrued(s, 1, x.day, api.Down)
		holds(t, "Accrued", x, got, err, int64(x.want), api.OK)
	}
	s.Per, s.End = 1, lastDay
	for _, x := range []struct{ day, want int }{{1, 0}, {2, 1}, {364, 363}, {365, 0}, {366, 1}, {lastDay - 1, 364}, {lastDay, 0}} {
		got, err := price.Accrued(s, 1, x.day, api.Down)
		holds(t, "Accrued", x, got, err, int64(x.want), api.OK)
	}
}

func TestAccruedOfOtherKinds(t *testing.T) {
	for _, s := range []api.Security{equity(), bill(), cash()} {
		for _, n := range append([]int{1, 738886, 738976, 738885, 738977, lastDay}, noDays...) {
			for _, mode := range modes {
				for _, qty := range []int64{0, 1, most} {
					got, err := price.Accrued(s, qty, n, mode)
					holds(t, "Accrued", []any{s.Kind, qty, n, mode}, got, err, 0, api.OK)
				}
				got, err := price.Accrued(s, -1, n, mode)
				holds(t, "Accrued", []any{s.Kind, -1, n, mode}, got, err, 0, api.ErrArg)
			}
			for _, mode := range wrongFours {
				got, err := price.Accrued(s, 1, n, mode)
				holds(t, "Accrued", []any{s.Kind, 1, n, mode}, got, err, 0, api.ErrArg)
			}
		}
	}
}

func TestAccruedRefuses(t *testing.T) {
	b := bond()
	for _, qty := range []int64{-1, -2, least, least + 1} {
		for _, n := range []int{b.Start, b.End, b.Start - 1, b.End + 1, 0} {
			got, err := price.Accrued(b, qty, n, api.Down)
			holds(t, "Accrued", []any{qty, n}, got, err, 0, api.ErrArg)
		}
	}
	for _, mode := range wrongFours {
		for _, n := range []int{b.Start, b.End + 1, 0} {
			got, err := price.Accrued(b, most, n, mode)
			holds(t, "Accrued", []any{mode, n}, got, err, 0, api.ErrArg)
		}
	}
	for _, n := range append([]int{b.Start - 1, b.End + 1, 1, lastDay}, noDays...) {
		for _, mode := range modes {
			got, err := price.Accrued(b, most, n, mode)
			holds(t, "Accrued", []any{mode, n}, got, err, 0, api.ErrDate)
		}
	}
}

// divisor is the least number from a on, and below 4096, that divides n, or 0.
func divisor(n *big.Int, a int64) int64 {
	rest := new(big.Int)
	for d := a; d < 4096; d++ {
		if rest.Rem(n, big.NewInt(d)).Sign() == 0 {
			return d
		}
	}
	return 0
}

func TestAccruedAtTheGreatest(t *testing.T) {
	// Of one day by Act360 a coupon of the whole face is qty x Face / 360: what that is, about MaxAmount, in 360ths.
	s := with(bond(), func(s *api.Security) { s.Coupon, s.Basis = 1000000, api.Act360 })
	seen := [8]int{}
	for _, whole := range []int64{most - 2, most - 1, most} {
		for part := range int64(360) {
			n := new(big.Int).Add(times(whole, 360), big.NewInt(part))
			d := divisor(n, 361)
			if d == 0 {
				continue
			}
			s.Face = d
			qty := new(big.Int).Div(n, big.NewInt(d)).Int64()
			for _, mode := range modes {
				want, no := told(near(n, big.NewInt(360), mode))
				got, err := price.Accrued(s, qty, s.Start+1, mode)
				holds(t, "Accrued", []any{qty, d, mode}, got, err, want, no)
				if whole == most && part > 0 {
					seen[mode]++
				}
				if part == 180 {
					seen[4+mode]++
				}
			}
		}
	}
	for i, n := range seen {
		if n < 1 {
			t.Errorf("no case of sort %d", i)
		}
	}
}

func TestAccruedOfManyBonds(t *testing.T) {
	seen := [2]int{}
	bonds(func(x *noise, s api.Security) {
		l := couponDays(t, s)
		for range 40 {
			n := s.Start + x.next(s.End-s.Start+1)
			if x.next(3) == 0 {
				n = min(s.End, max(s.Start, one(x, l)+x.next(3)-1))
			}
			qty, mode := x.amount(), x.next(4)
			if x.next(2) == 0 {
				s.Face = 1 + int64(x.next(1000000))
			}
			want, no := interest(t, s, l, qty, n, mode)
			if no == api.OK {
				seen[0]++
			} else {
				seen[1]++
			}
			got, err := price.Accrued(s, qty, n, mode)
			holds(t, "Accrued", []any{s, qty, n, mode}, got, err, want, no)
		}
	})
	if seen[0] < 10000 || seen[1] < 10000 {
		t.Errorf("answers and refusals: %v", seen)
	}
}

// P4.4

func TestCleanExamples(t *testing.T) {
	got, err := price.Clean(bond(), 10, 9875, 2, api.Down)
	holds(t, "Clean", "at 98.75", got, err, 987500, api.OK)
	for mode, want := range [4]int64{370, 371, 370, 370} {
		got, err := price.Clean(equity(), 3, 12345, 2, mode)
		holds(t, "Clean", mode, got, err, want, api.OK)
	}
	for mode, want := range [4]int64{2, 3, 3, 2} {
		got, err := price.Clean(equity(), 1, 25, 1, mode)
		holds(t, "Clean", mode, got, err, want, api.OK)
		got, err = price.Clean(equity(), 5, 5, 1, mode)
		holds(t, "Clean", mode, got, err, want, api.OK)
	}
	for mode, want := range [4]int64{3, 4, 4, 4} {
		got, err := price.Clean(equity(), 35, 1, 1, mode)
		holds(t, "Clean", mode, got, err, want, api.OK)
	}
	// one per cent of 150 is 1.5, of 250 2.5
	for mode, want := range [4]int64{1, 2, 2, 2} {
		s := with(bill(), func(s *api.Security) { s.Face = 150 })
		got, err := price.Clean(s, 1, 1, 0, mode)
		holds(t, "Clean", mode, got, err, want, api.OK)
	}
	for mode, want := range [4]int64{2, 3, 3, 2} {
		s := with(bond(), func(s *api.Security) { s.Face = 250 })
		got, err := price.Clean(s, 1, 1, 0, mode)
		holds(t, "Clean", mode, got, err, want, api.OK)
	}
}

func TestCleanEdges(t *testing.T) {
	greatest := with(bond(), func(s *api.Security) { s.Face = most })
	for _, x := range []struct {
		what        string
		s           api.Security
		qty, price  int64
		scale, mode int
		want        int64
		no          api.Errno
	}{
		{"nothing", equity(), 0, most, 0, api.Up, 0, api.OK},
		{"for nothing", equity(), most, 0, 18, api.Up, 0, api.OK},
		{"nothing", bond(), 0, most, 0, api.Up, 0, api.OK},
		{"the least", equity(), 1, 1, 18, api.Down, 0, api.OK},
		{"the least, up", equity(), 1, 1, 18, api.Up, 1, api.OK},
		{"the least of a bill, up", bill(), 1, 1, 18, api.Up, 1, api.OK},
		{"the greatest", equity(), most, 1, 0, api.Up, most, api.OK},
		{"the greatest price", equity(), 1, most, 0, api.Up, most, api.OK},
		{"the greatest at 1", equity(), most, 1e18, 18, api.HalfUp, most, api.OK},
		{"the greatest at just above 1", equity(), most, 1e18 + 1, 18, api.Down, 0, api.ErrOver},
		{"the greatest at just below 1", equity(), most, 1e18 - 1, 18, api.Up, 9223372036854775798, api.OK},
		{"twice the greatest", equity(), most, 2, 0, api.Down, 0, api.ErrOver},
		{"2^63", equity(), 1 << 62, 2, 0, api.Down, 0, api.ErrOver},
		{"2^64", equity(), 1 << 62, 4, 0, api.Down, 0, api.ErrOver},
		{"2^124 over 10^18", equity(), 1 << 62, 1 << 62, 18, api.Down, 0, api.ErrOver},
		{"a face of the greatest at 100", greatest, 1, 100, 0, api.Up, most, api.OK},
		{"a face of the greatest at just above 100", greatest, 1, 1e18 + 1, 16, api.Down, 0, api.ErrOver},
		{"a face of the greatest at just below 100", greatest, 1, 1e18 - 1, 16, api.Down, 9223372036854775797, api.OK},
		{"the greatest of all three, over 10^20", greatest, most, most, 18, api.Down, 0, api.ErrOver},
		{"the greatest of two, over 10^20", greatest, most, 1, 18, api.Down, 850705917302346158, api.OK},
		{"the greatest of two, over 10^20, up", greatest, most, 1, 18, api.Up, 850705917302346159, api.OK},
		{"the greatest price of one", with(bond(), func(s *api.Security) { s.Face = 1 }), most, 100, 0, api.Up, most, api.OK},
		{"the greatest price and one more", with(bond(), func(s *api.Security) { s.Face = 1 }), most, 101, 0, api.Down, 0, api.ErrOver},
	} {
		got, err := price.Clean(x.s, x.qty, x.price, x.scale, x.mode)
		holds(t, "Clean", x.what, got, err, x.want, x.no)
	}
}

func TestCleanEachScale(t *testing.T) {
	p := int64(1)
	for scale := range 19 {
		got, err := price.Clean(equity(), 7, p, scale, api.Up)
		holds(t, "Clean", []any{7, p, scale}, got, err, 7, api.OK)
		if scale > 0 {
			got, err := price.Clean(equity(), 1, p+1, scale, api.Up)
			holds(t, "Clean", []any{1, p + 1, scale}, got, err, 2, api.OK)
			got, err = price.Clean(equity(), 1, p-1, scale, api.Down)
			holds(t, "Clean", []any{1, p - 1, scale}, got, err, 0, api.OK)
		}
		got, err = price.Clean(bill(), 3, p, scale, api.Down)
		holds(t, "Clean", []any{"a bill", 3, p, scale}, got, err, 3000, api.OK)
		p *= 10
	}
}

func TestCleanRefuses(t *testing.T) {
	for _, s := range []api.Security{equity(), bond(), bill(), cash()} {
		no := api.ErrArg
		if s.Kind == api.Cash {
			no = api.ErrKind
		}
		for _, n := range []int64{-1, -2, least, least + 1} {
			got, err := price.Clean(s, n, 1, 0, api.Down)
			holds(t, "Clean", []any{s.Kind, n, 1}, got, err, 0, no)
			got, err = price.Clean(s, 1, n, 0, api.Down)
			holds(t, "Clean", []any{s.Kind, 1, n}, got, err, 0, no)
			got, err = price.Clean(s, n, n, 0, api.Down)
			holds(t, "Clean", []any{s.Kind, n, n}, got, err, 0, no)
		}
		for _, scale := range []int{-1, 19, 20, -18, 256, 1 << 32, math.MaxInt, math.MinInt} {
			got, err := price.Clean(s, 1, 1, scale, api.Down)
			holds(t, "Clean", []any{s.Kind, "scale", scale}, got, err, 0, no)
			got, err = price.Clean(s, most, most, scale, api.Down) // above MaxAmount, too
			holds(t, "Clean", []any{s.Kind, "scale", scale}, got, err, 0, no)
		}
		for _, mode := range wrongFours {
			got, err := price.Clean(s, 1, 1, 0, mode)
			holds(t, "Clean", []any{s.Kind, "mode", mode}, got, err, 0, no)
			got, err = price.Clean(s, most, most, 0, mode)
			holds(t, "Clean", []any{s.Kind, "mode", mode}, got, err, 0, no)
		}
	}
	got, err := price.Clean(cash(), 1, 1, 0, api.Down)
	holds(t, "Clean", "cash", got, err, 0, api.ErrKind)
}

func TestCleanAtTheGreatest(t *testing.T) {
	// Equities: qty x price / 10^scale about MaxAmount, in parts of 10^scale; a bond of the face 100 costs the same.
	hundred := with(bond(), func(s *api.Security) { s.Face = 100 })
	halves, above := 0, 0
	for _, scale := range []int{1, 2} {
		by := int64(10)
		if scale == 2 {
			by = 100
		}
		for _, whole := range []int64{most - 2, most - 1, most} {
			for part := range by {
				n := new(big.Int).Add(times(whole, by), big.NewInt(part))
				d := divisor(n, by+1)
				if d == 0 {
					continue
				}
				qty := new(big.Int).Div(n, big.NewInt(d)).Int64()
				for _, mode := range modes {
					want, no := told(near(n, big.NewInt(by), mode))
					for _, s := range []api.Security{equity(), hundred} {
						got, err := price.Clean(s, qty, d, scale, mode)
						holds(t, "Clean", []any{s.Kind, qty, d, scale, mode}, got, err, want, no)
					}
				}
				if part*2 == by {
					halves++
				}
				if part > 0 && whole == most {
					above++
				}
			}
		}
	}
	if halves < 2 || above < 5 {
		t.Errorf("%d halves, %d above the greatest", halves, above)
	}
	// just half above MaxAmount, which is odd: only Down keeps it
	for mode, no := range [4]api.Errno{api.OK, api.ErrOver, api.ErrOver, api.ErrOver} {
		got, err := price.Clean(equity(), 6148914691236517205, 15, 1, mode)
		holds(t, "Clean", []any{"MaxAmount and a half", mode}, got, err, most, no)
	}
}

// cost is what Clean should answer of a right security and right arguments.
func cost(s api.Security, qty, at int64, scale, mode int) (int64, api.Errno) {
	below := big.NewInt(1)
	for range scale {
		below.Mul(below, big.NewInt(10))
	}
	if s.Kind == api.Equity {
		return told(near(times(qty, at), below, mode))
	}
	return told(near(times(qty, s.Face, at), below.Mul(below, big.NewInt(100)), mode))
}

func TestCleanOfMany(t *testing.T) {
	x := noise(44)
	seen := [2]int{}
	for range 100000 {
		s := one(&x, []api.Security{equity(), bond(), bill()})
		if s.Kind != api.Equity {
			s.Face = 1 + x.amount()>>x.next(60)/2
		}
		qty, at, scale, mode := x.amount(), x.amount(), x.next(19), x.next(4)
		want, no := cost(s, qty, at, scale, mode)
		if no == api.OK {
			seen[0]++
		} else {
			seen[1]++
		}
		got, err := price.Clean(s, qty, at, scale, mode)
		holds(t, "Clean", []any{s, qty, at, scale, mode}, got, err, want, no)
	}
	if seen[0] < 10000 || seen[1] < 10000 {
		t.Errorf("answers and refusals: %v", seen)
	}
}

// P4.5

func TestConsiderationExamples(t *testing.T) {
	for _, x := range []struct {
		what       string
		s          api.Security
		qty, price int64
		scale, day int
		mode       int
		want       int64
		no         api.Errno
	}{
		{"the chapter's", bond(), 10, 9875, 2, day(2024, 4, 14), api.HalfUp, 999861, api.OK},
		{"each is rounded by itself", with(bond(), func(s *api.Security) { s.Face = 110 }), 1, 1, 0, day(2024, 4, 14), api.Up, 2 + 2, api.OK},   // 1.1 and 1.35..
		{"each is rounded by itself", with(bond(), func(s *api.Security) { s.Face = 150 }), 1, 1, 0, day(2024, 4, 14), api.Down, 1 + 1, api.OK}, // 1.5 and 1.85..
		{"an equity has no interest", equity(), 3, 12345, 2, -7, api.Up, 371, api.OK},
		{"a bill has no interest", bill(), 3, 99, 0, -7, api.Up, 297000, api.OK},
		{"on End", bond(), 10, 100, 0, 739447, api.Up, 1000000, api.OK},
		{"cash", cash(), 1, 1, 0, 1, api.Down, 0, api.ErrKind},
		{"cash, and more that is wrong", cash(), -1, -1, -1, -1, -1, 0, api.ErrKind},
		{"a price below 0, and no day", bond(), 10, -1, 2, 739448, api.Down, 0, api.ErrArg},
		{"a wrong scale, and no day", bond(), 10, 1, 19, 739448, api.Down, 0, api.ErrArg},
		{"a wrong mode, and no day", bond(), 10, 1, 0, 739448, 4, 0, api.ErrArg},
		{"no day", bond(), 10, 1, 2, 739448, api.Down, 0, api.ErrDate},
		{"no day, and too much to pay: Clean's first", bond(), most, most, 0, 739448, api.Down, 0, api.ErrOver},
		{"accrued above the greatest", bond(), most, 0, 0, day(2024, 4, 14), api.Down, 0, api.ErrOver},
	} {
		got, err := price.Consideration(x.s, x.qty, x.price, x.scale, x.day, x.mode)
		holds(t, "Consideration", x.what, got, err, x.want, x.no)
	}
}

func TestConsiderationAtTheGreatest(t *testing.T) {
	// A unit costs its price, and bears 100 a year: 10 in 36 days, 10.2.. in 37.
	s := with(bond(), func(s *api.Security) { s.Face, s.Coupon, s.Basis = 100, 1000000, api.Act360 })
	for _, x := range []struct {
		price      int64
		days, mode int
		want       int64
		no         api.Errno
	}{
		{most, 0, api.Up, most, api.OK},
		{most - 11, 36, api.Up, most - 1, api.OK},
		{most - 10, 36, api.Up, most, api.OK},
		{most - 9, 36, api.Down, 0, api.ErrOver},
		{most, 36, api.Down, 0, api.ErrOver},
		{most - 10, 37, api.Down, most, api.OK},
		{most - 10, 37, api.HalfUp, most, api.OK},
		{most - 10, 37, api.Up, 0, api.ErrOver},
		{most - 11, 37, api.Up, most, api.OK},
	} {
		got, err := price.Consideration(s, 1, x.price, 0, s.Start+x.days, x.mode)
		holds(t, "Consideration", x, got, err, x.want, x.no)
	}
	// as great as both can be: what is above 64 bits wraps round to less
	got, err := price.Consideration(with(s, func(s *api.Security) { s.Face = 1 }), most, 100, 0, day(2024, 1, 14), api.Down)
	holds(t, "Consideration", "both great", got, err, 0, api.ErrOver)
}

func TestConsiderationOfMany(t *testing.T) {
	seen := map[api.Errno]int{}
	bonds(func(x *noise, s api.Security) {
		l := couponDays(t, s)
		for range 10 {
			s.Face = 1 + x.amount()>>x.next(60)/2
			qty, at, scale, mode := x.amount(), x.amount(), x.next(19), x.next(4)
			n := s.Start + x.next(s.End-s.Start+1)
			clean, no := cost(s, qty, at, scale, mode)
			if no == api.OK {
				var accrued int64
				accrued, no = interest(t, s, l, qty, n, mode)
				if no == api.OK && clean > most-accrued {
					no = api.ErrOver
				}
				clean += accrued
			}
			seen[no]++
			got, err := price.Consideration(s, qty, at, scale, n, mode)
			holds(t, "Consideration", []any{s, qty, at, scale, n, mode}, got, err, clean, no)
		}
	})
	if seen[api.OK] < 3000 || seen[api.ErrOver] < 3000 {
		t.Errorf("answers and refusals: %v", seen)
	}
}

// asked are arguments of which each may be wrong.
type asked struct {
	s                api.Security
	qty, price       int64
	scale, day, mode int
}

func anyAsked(x *noise) asked {
	numbers := []int64{-1, 0, 1, 1, 7, 100, most, least}
	s := anyhow(x)
	return asked{s, one(x, numbers), one(x, numbers), one(x, []int{-1, 0, 0, 2, 18, 19}),
		one(x, []int{s.Start, s.Start, s.End, s.Start + 1, s.Start - 1, s.End + 1, 0, -1, lastDay + 1}), one(x, []int{-1, 0, 1, 2, 3, 4})}
}

func isMode(mode int) bool { return slices.Contains(modes, mode) }

// accrued and clean are the answers of Accrued and Clean whatever is handed in: the chapter's errors in their order.
func (a asked) accrued(t testing.TB) (int64, api.Errno) {
	if no := wrong(a.s); no != api.OK {
		return 0, no
	}
	if a.qty < 0 || !isMode(a.mode) {
		return 0, api.ErrArg
	}
	if a.s.Kind != api.Bond {
		return 0, api.OK
	}
	if a.day < a.s.Start || a.day > a.s.End {
		return 0, api.ErrDate
	}
	return interest(t, a.s, couponDays(t, a.s), a.qty, a.day, a.mode)
}

func (a asked) clean() (int64, api.Errno) {
	if no := wrong(a.s); no != api.OK {
		return 0, no
	}
	if a.s.Kind == api.Cash {
		return 0, api.ErrKind
	}
	if a.qty < 0 || a.price < 0 || a.scale < 0 || a.scale > 18 || !isMode(a.mode) {
		return 0, api.ErrArg
	}
	return cost(a.s, a.qty, a.price, a.scale, a.mode)
}

func TestWhichErrorIsTold(t *testing.T) {
	x := noise(45)
	seen := map[api.Errno]int{}
	for range 60000 {
		a := anyAsked(&x)
		if a.s.End-a.s.Start > 5000 { // the second reckoning goes month by month
			continue
		}
		interest, no := a.accrued(t)
		got, err := price.Accrued(a.s, a.qty, a.day, a.mode)
		holds(t, "Accrued", a, got, err, interest, no)
		cost, first := a.clean()
		got, err = price.Clean(a.s, a.qty, a.price, a.scale, a.mode)
		holds(t, "Clean", a, got, err, cost, first)
		if first == api.OK {
			first = no
		}
		if first == api.OK && cost > most-interest {
			first = api.ErrOver
		}
		seen[first]++
		got, err = price.Consideration(a.s, a.qty, a.price, a.scale, a.day, a.mode)
		holds(t, "Consideration", a, got, err, cost+interest, first)
	}
	for _, no := range []api.Errno{api.OK, api.ErrKind, api.ErrForm, api.ErrArg, api.ErrAmount, api.ErrDate, api.ErrOver} {
		if seen[no] < 200 {
			t.Errorf("%v came %d times only", no, seen[no])
		}
	}
}

// P4.8

func TestTwoQuantities(t *testing.T) {
	x := noise(46)
	less, more := [2]int{}, [2]int{}
	law := func(what string, ask func(qty int64, mode int) (int64, error)) {
		t.Helper()
		a, b := x.amount()>>x.next(40)/2, x.amount()>>x.next(40)/2
		for _, mode := range []int{api.Down, api.Up} {
			first, err1 := ask(a, mode)
			second, err2 := ask(b, mode)
			both, err3 := ask(a+b, mode)
			if err1 != nil || err2 != nil || err3 != nil {
				continue
			}
			apart := both - first - second // below 0: the parts cost more
			switch {
			case mode == api.Down && (apart == 0 || apart == 1):
				less[apart]++
			case mode == api.Up && (apart == 0 || apart == -1):
				more[-apart]++
			default:
				t.Fatalf("%s of %d and %d by %d: %d and %d apart, %d at once", what, a, b, mode, first, second, both)
			}
		}
	}
	for range 20000 {
		s := one(&x, []api.Security{equity(), bond(), bill()})
		if s.Kind != api.Equity {
			s.Face = 1 + int64(x.next(1<<20))
		}
		at, scale := x.amount()>>x.next(40), x.next(19)
		law("Clean", func(qty int64, mode int) (int64, error) { return price.Clean(s, qty, at, scale, mode) })
		b := with(bond(), func(s *api.Security) {
			s.Face, s.Coupon, s.Basis = 1+int64(x.next(1<<20)), int64(x.next(1000001)), x.next(4)
		})
		n := b.Start + x.next(b.End-b.Start+1)
		law("Accrued", func(qty int64, mode int) (int64, error) { return price.Accrued(b, qty, n, mode) })
	}
	for _, seen := range [][2]int{less, more} {
		if seen[0] < 1000 || seen[1] < 1000 {
			t.Errorf("as much, and one off: %v by Down, %v by Up", less, more)
		}
	}
}

// P4.9

func TestAccruedFromDayToDay(t *testing.T) {
	bonds(func(x *noise, s api.Security) {
		if x.next(20) > 0 { // each day of one in twenty
			return
		}
		s.Face = 1 + int64(x.next(1<<24))
		l, err := price.Coupons(s)
		if err != nil {
			t.Fatal(err)
		}
		qty := int64(x.next(1 << 24))
		for _, mode := range modes {
			last := int64(0)
			for n := s.Start; n <= s.End; n++ {
				got, err := price.Accrued(s, qty, n, mode)
				if err != nil {
					t.Fatalf("Accrued of %v on %d: %v", s, n, err)
				}
				paid := n == s.Start || slices.Contains(l, n)
				if paid && got != 0 {
					t.Errorf("Accrued of %v on %d, a coupon day or Start, is %d", s, n, got)
				}
				if !paid && got < last {
					t.Errorf("Accrued of %v falls on %d from %d to %d", s, n, last, got)
				}
				last = got
			}
		}
	})
}
