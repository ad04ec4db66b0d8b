package wire

import "custody/api"

// source is bytes that are read from the first one on; behind its first error it gives nothing more.
type source struct {
	rest []byte
	err  error
}

// Uint reads a number from 0 to most.
func (s *source) Uint(most uint64) uint64 {
	if s.err != nil {
		return 0
	}
	x, size, err := begins(s.rest)
	if err == nil && x > most {
		err = api.ErrMany
	}
	if err != nil {
		s.err = err
		return 0
	}
	s.rest = s.rest[size:]
	return x
}

// take reads so many bytes. They are the source's own: what is answered of them is a copy.
func (s *source) take(size uint64) []byte {
	if s.err != nil {
		return nil
	}
	if size > uint64(len(s.rest)) {
		s.err = api.ErrShort
		return nil
	}
	taken := s.rest[:size]
	s.rest = s.rest[size:]
	return taken
}

// Left is how many bytes are left.
func (s *source) Left() int { return len(s.rest) }

// Err is the first error.
func (s *source) Err() error { return s.err }

// End is the first error, or ErrLong where bytes are left.
func (s *source) End() error {
	if s.err == nil && len(s.rest) > 0 {
		return api.ErrLong
	}
	return s.err
}
