package journal_test

import (
	"bytes"
	"strconv"
	"testing"

	"custody/api"
	"custody/journal"
	"custody/proof"
)

// step is one thing that is asked of a disk, and of its second reckoning.
type step struct {
	name  string
	disk  func(d *journal.Disk) error
	plate func(p *plate) api.Errno
}

func write(b string) step {
	return step{"Write " + b, func(d *journal.Disk) error { return d.Write([]byte(b)) }, func(p *plate) api.Errno { return p.write([]byte(b)) }}
}

func cut(n int) step {
	return step{"Cut " + strconv.Itoa(n), func(d *journal.Disk) error { return d.Cut(n) }, func(p *plate) api.Errno { return p.cut(n) }}
}

func sync() step { return step{"Sync", (*journal.Disk).Sync, (*plate).sync} }

// quiet is a step that answers nothing.
func quiet(name string, ask func(d *journal.Disk), again func(p *plate)) step {
	return step{name, func(d *journal.Disk) error { ask(d); return nil }, func(p *plate) api.Errno { again(p); return api.OK }}
}

func arm(n, keep int) step {
	return quiet("Arm "+strconv.Itoa(n)+" Keep "+strconv.Itoa(keep), func(d *journal.Disk) { d.Arm(n, api.Fate{Keep: keep}) }, func(p *plate) { p.arm(n, keep) })
}

func crash(keep int) step {
	return quiet("Crash Keep "+strconv.Itoa(keep), func(d *journal.Disk) { d.Crash(api.Fate{Keep: keep}) }, func(p *plate) { p.crash(keep) })
}

func revive() step { return quiet("Revive", (*journal.Disk).Revive, (*plate).revive) }

// names are those of steps.
func names(l []step) string {
	text := ""
	for _, s := range l {
		text += s.name + "; "
	}
	return text
}

// shows holds a disk against its second reckoning.
func shows(t *testing.T, d *journal.Disk, p *plate, name string) {
	t.Helper()
	want, no := p.now(), api.OK
	if p.dead {
		want, no = nil, api.ErrDead
	}
	if b, err := d.Bytes(); !bytes.Equal(b, want) || !proof.Tells(err, no) {
		t.Fatalf("%s: the bytes are %.40q, %v; want %.40q, %v", name, b, err, want, no)
	}
	if b := d.Durable(); !bytes.Equal(b, p.durable()) {
		t.Fatalf("%s: the durable bytes are %.40q, not %.40q", name, b, p.durable())
	}
}

// play asks steps of a disk with these bytes, and holds each answer against the second reckoning.
func play(t *testing.T, start string, steps ...step) (*journal.Disk, *plate) {
	t.Helper()
	d, p := journal.NewDisk([]byte(start)), newPlate([]byte(start))
	shows(t, d, p, "a new disk")
	for i, s := range steps {
		if err, no := s.disk(d), s.plate(p); !proof.Tells(err, no) {
			t.Fatalf("%s: %v, not %v", names(steps[:i+1]), err, no)
		}
		shows(t, d, p, names(steps[:i+1]))
	}
	return d, p
}

// steps are lists of steps, one behind the other; nil is none.
func steps(lists ...[]step) []step {
	var l []step
	for _, x := range lists {
		l = append(l, x...)
	}
	return l
}

// w is what the chapter's examples begin with: abc is synced, and def is not.
func w(more ...step) []step {
	return append([]step{write("abc"), sync(), write("def")}, more...)
}

// leaves asks steps of a disk of nothing, and tells which bytes are durable then.
func leaves(t *testing.T, want string, l []step) {
	t.Helper()
	if d, _ := play(t, "", l...); string(d.Durable()) != want {
		t.Errorf("%s: %q is durable, not %q", names(l), d.Durable(), want)
	}
}

// holds asks steps of a disk of nothing, and tells which bytes it has then.
func holds(t *testing.T, want string, l []step) {
	t.Helper()
	d, _ := play(t, "", l...)
	if b, err := d.Bytes(); string(b) != want || err != nil {
		t.Errorf("%s: it has %q, %v; not %q", names(l), b, err, want)
	}
}

// fails asks a step of a disk on which others were done, and tells its error.
func fails(t *testing.T, no api.Errno, ahead []step, s step) {
	t.Helper()
	if d, _ := play(t, "", ahead...); !proof.Tells(s.disk(d), no) {
		t.Errorf("%sit doesn't answer %v to %s", names(ahead), no, s.name)
	}
}

// frames are those of records, with the numbers from 1 on.
func frames(records ...string) string {
	var b []byte
	for i, r := range records {
		b = append(b, framed(uint64(i+1), []byte(r))...)
	}
	return string(b)
}

// frame is that of one record.
func frame(number uint64, record string) string { return string(framed(number, []byte(record))) }

// texts are records as texts.
func texts(l [][]byte) []string {
	var out []string
	for _, r := range l {
		out = append(out, string(r))
	}
	return out
}
