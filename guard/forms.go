package guard

import "custody/api"

// form is what all operations of a code have in common.
type form struct {
	fixed int                        // numbers behind the code that are always there
	each  int                        // numbers of each leg or pair behind those; 0: it has none
	read  func(row) api.Op           // from the numbers behind the code, which fit
	write func(row, api.Op) row      // behind the code
	look  func(config, api.Op) error // what is wrong
}

// forms are those of the codes, each under its own; under 0 there is none.
func forms() [api.OpSnapshot + 1]form {
	return [api.OpSnapshot + 1]form{
		api.OpDeposit:  {3, 0, row.held, row.withHeld, config.held},
		api.OpWithdraw: {3, 0, row.held, row.withHeld, config.held},
		api.OpMark:     {4, 0, row.marked, row.withMarked, config.marked},
		api.OpUnmark:   {4, 0, row.marked, row.withMarked, config.marked},
		api.OpSubmit:   {1, legSize, row.submitted, row.withSubmitted, config.submitted},
		api.OpCancel:   {1, 0, row.identified, row.withIdentified, config.identified},
		api.OpStatus:   {1, 0, row.identified, row.withIdentified, config.identified},
		api.OpSnapshot: {0, pairSize, row.paired, row.withPaired, config.paired},
	}
}

// formOf is a code's form, if it is a code.
func formOf(code int) (form, bool) {
	if !within(code, api.OpDeposit, api.OpSnapshot) {
		return form{}, false
	}
	return forms()[code], true
}

// fits is what is wrong with a row that has so many numbers behind its code.
func (f form) fits(numbers int) error {
	more := numbers - f.fixed
	switch {
	case more < 0:
		return api.ErrShort
	case f.each == 0 && more > 0:
		return api.ErrLong
	case f.each > 0 && more%f.each > 0:
		return api.ErrShort
	}
	return nil
}
