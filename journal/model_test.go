package journal_test

import (
	"bytes"
	"hash/crc32"
	"math/big"
	"slices"

	"custody/api"
)

// The second reckoning takes the chapter's words one by one: a plate keeps a copy of all bytes that it has had since they were last durable, and frames are read byte by byte, with the library's sum.

// plate is a disk.
type plate struct {
	had      [][]byte // from those that are durable to those that it has now
	dead     bool
	failures int
	until    int // the power fails in so many operations; 0: it isn't armed
	keep     int
}

func newPlate(b []byte) *plate { return &plate{had: [][]byte{bytes.Clone(b)}} }

func (p *plate) durable() []byte { return p.had[0] }

func (p *plate) now() []byte { return p.had[len(p.had)-1] }

// kept is what is there behind a failure of the power.
func (p *plate) kept(keep int) []byte {
	if keep < 1 {
		return p.durable()
	}
	c := len(p.had[0])
	for _, b := range p.had {
		c = min(c, len(b))
	}
	all, out := p.now(), []byte{}
	for at, x := range all {
		if at < c || at-c < keep {
			out = append(out, x)
		}
	}
	return out
}

func (p *plate) crash(keep int) {
	if p.dead {
		return
	}
	p.had = [][]byte{p.kept(keep)}
	p.dead, p.until = true, 0
	p.failures++
}

func (p *plate) revive() { p.dead, p.until = false, 0 }

func (p *plate) arm(n, keep int) {
	if !p.dead {
		p.until, p.keep = max(n, 1), keep
	}
}

// failsNow counts an operation.
func (p *plate) failsNow() bool {
	if p.until == 0 {
		return false
	}
	p.until--
	return p.until == 0
}

// change is a Write, or a Cut, which leaves these bytes.
func (p *plate) change(b []byte) api.Errno {
	p.had = append(p.had, b)
	if p.failsNow() {
		p.crash(p.keep)
		return api.ErrDead
	}
	return api.OK
}

func (p *plate) write(b []byte) api.Errno {
	switch {
	case p.dead:
		return api.ErrDead
	case len(p.now())+len(b) > 1<<26:
		return api.ErrMany
	}
	return p.change(slices.Concat(p.now(), b))
}

func (p *plate) cut(n int) api.Errno {
	switch {
	case p.dead:
		return api.ErrDead
	case n < 0, n > len(p.now()):
		return api.ErrArg
	}
	return p.change(bytes.Clone(p.now()[:n]))
}

func (p *plate) sync() api.Errno {
	if p.dead {
		return api.ErrDead
	}
	if p.failsNow() {
		p.crash(p.keep)
		return api.ErrDead
	}
	p.had = [][]byte{p.now()}
	return api.OK
}

// form is a number's form.
func form(x uint64) []byte {
	if x < 0xf8 {
		return []byte{byte(x)}
	}
	b := new(big.Int).SetUint64(x).Bytes()
	return append([]byte{byte(0xf7 + len(b))}, b...)
}

// framed is a frame.
func framed(number uint64, payload []byte) []byte {
	f := form(number)
	sum := crc32.Checksum(slices.Concat(f, payload), crc32.MakeTable(crc32.Castagnoli))
	return slices.Concat(form(uint64(len(payload))), f, []byte{byte(sum >> 24), byte(sum >> 16), byte(sum >> 8), byte(sum)}, payload)
}

// starts is the number whose form b begins with, and what stands behind it.
func starts(b []byte) (uint64, []byte, api.Errno) {
	if len(b) == 0 {
		return 0, nil, api.ErrShort
	}
	n := max(0, int(b[0])-0xf7)
	if len(b) <= n {
		return 0, nil, api.ErrShort
	}
	x := new(big.Int).SetBytes(b[1 : 1+n]).Uint64()
	if n == 0 {
		x = uint64(b[0])
	}
	if !bytes.HasPrefix(b, form(x)) {
		return 0, nil, api.ErrForm
	}
	return x, b[1+n:], api.OK
}

// unframed is the frame that b begins with: its number, its payload, how many bytes it has.
func unframed(b []byte) (uint64, []byte, int, api.Errno) {
	many, rest, no := starts(b)
	if no != api.OK {
		return 0, nil, 0, no
	}
	if many > 65536 {
		return 0, nil, 0, api.ErrMany
	}
	number, rest, no := starts(rest)
	if no != api.OK {
		return 0, nil, 0, no
	}
	if len(rest) < 4+int(many) {
		return 0, nil, 0, api.ErrShort
	}
	payload := rest[4 : 4+many]
	if f := framed(number, payload); bytes.HasPrefix(b, f) {
		return number, payload, len(f), api.OK
	}
	return 0, nil, 0, api.ErrSum
}

// scanned are the records on bytes.
func scanned(b []byte) ([][]byte, int, api.Errno) {
	var l [][]byte
	for size := 0; ; {
		if size == len(b) {
			return l, size, api.OK
		}
		number, payload, more, no := unframed(b[size:])
		if no == api.OK && number != uint64(1+len(l)) {
			no = api.ErrForm
		}
		if no != api.OK {
			return l, size, no
		}
		l, size = append(l, bytes.Clone(payload)), size+more
	}
}

// scroll is a journal.
type scroll struct {
	p             *plate
	failures      int
	last, durable int
}

func openScroll(p *plate) (*scroll, [][]byte, api.Errno) {
	if p.dead {
		return nil, nil, api.ErrDead
	}
	l, size, _ := scanned(p.now())
	if size < len(p.now()) && p.cut(size) != api.OK || p.sync() != api.OK {
		return nil, nil, api.ErrDead
	}
	return &scroll{p, p.failures, len(l), len(l)}, l, api.OK
}

func (s *scroll) append(record []byte) (int, api.Errno) {
	switch {
	case s.failures < s.p.failures:
		return 0, api.ErrDead
	case len(record) > 65536:
		return 0, api.ErrMany
	}
	if no := s.p.write(framed(uint64(s.last+1), record)); no != api.OK {
		return 0, no
	}
	s.last++
	return s.last, api.OK
}

func (s *scroll) sync() (int, api.Errno) {
	if s.failures < s.p.failures || s.p.sync() != api.OK {
		return 0, api.ErrDead
	}
	s.durable = s.last
	return s.durable, api.OK
}
