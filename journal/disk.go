package journal

import (
	"bytes"

	"custody/api"
)

// Disk holds bytes of which some are not synced yet.
type Disk struct {
	bytes, durable []byte // they may lie in the same memory
	least          int    // the least number of bytes since they were last durable
	dead           bool
	failures       int      // how often the power has failed
	until          int      // in so many operations the power fails; 0: in none
	fate           api.Fate // what becomes of the bytes then
}

// NewDisk is a disk with these bytes, all synced.
func NewDisk(b []byte) *Disk {
	d := &Disk{}
	d.settle(bytes.Clone(b))
	return d
}

// Write puts bytes behind all others.
func (d *Disk) Write(b []byte) error {
	switch {
	case d.dead:
		return api.ErrDead
	case len(d.bytes)+len(b) > api.MaxDisk:
		return api.ErrMany
	}
	return d.operate(d.hold, append(d.bytes, b...))
}

// Cut leaves so many bytes.
func (d *Disk) Cut(n int) error {
	switch {
	case d.dead:
		return api.ErrDead
	case n < 0 || n > len(d.bytes):
		return api.ErrArg
	}
	return d.operate(d.hold, beginning(d.bytes, n))
}

// Sync makes all writes and cuts durable.
func (d *Disk) Sync() error {
	if d.dead {
		return api.ErrDead
	}
	return d.operate(d.settle, d.bytes)
}

// operate does an operation of a disk that is alive, which leaves these bytes. If the power fails in it, they are no more than held then.
func (d *Disk) operate(do func([]byte), b []byte) error {
	if d.fails() {
		d.hold(b)
		d.Crash(d.fate)
		return api.ErrDead
	}
	do(b)
	return nil
}

// fails tells whether the power fails in this operation, and counts it.
func (d *Disk) fails() bool {
	if d.until == 0 {
		return false
	}
	d.until--
	return d.until == 0
}

// hold makes these the disk's bytes; they are not durable yet.
func (d *Disk) hold(b []byte) {
	d.bytes, d.least = b, min(d.least, len(b))
}

// settle makes these the disk's bytes, and durable.
func (d *Disk) settle(b []byte) {
	d.bytes, d.durable, d.least = b, b, len(b)
}

// Bytes are all bytes, as a reader sees them.
func (d *Disk) Bytes() ([]byte, error) {
	if d.dead {
		return nil, api.ErrDead
	}
	return bytes.Clone(d.bytes), nil
}

// Durable are the bytes that are there whatever happens.
func (d *Disk) Durable() []byte { return bytes.Clone(d.durable) }

// Arm lets the power fail in so many operations, with this fate.
func (d *Disk) Arm(n int, f api.Fate) {
	if !d.dead {
		d.until, d.fate = max(1, n), f
	}
}

// Crash lets the power fail now.
func (d *Disk) Crash(f api.Fate) {
	if d.dead {
		return
	}
	d.settle(d.kept(f))
	d.dead, d.until = true, 0
	d.failures++
}

// kept are the bytes that are there behind a failure of the power.
func (d *Disk) kept(f api.Fate) []byte {
	if f.Keep < 1 {
		return d.durable
	}
	return beginning(d.bytes, d.least+min(f.Keep, len(d.bytes)-d.least))
}

// Revive brings the power back.
func (d *Disk) Revive() { d.dead, d.until = false, 0 }

// beginning are the first n bytes. Who writes behind them writes elsewhere, as durable bytes may stand there.
func beginning(b []byte, n int) []byte { return b[:n:n] }
