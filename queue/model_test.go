package queue_test

import (
	"slices"

	"custody/api"
	"custody/queue"
)

// queued is what may be asked of a queue, and of the second reckoning.
type queued interface {
	Put(id int, keys []api.Key) error
	Touch(keys []api.Key) int
	Take() (int, bool)
	Back(id int) bool
	Remove(id int) bool
	Len() int
	Full() bool
	Items() []int
	Idle() []int
}

var _ queued = (*queue.Queue)(nil)

// book is a second reckoning of a queue, by times alone: it notes when each key was touched last, and when each entry was put or taken last.
type book struct {
	room  int
	now   int
	items []item
	last  map[api.Key]int
}

// item is an entry of a book.
type item struct {
	id    int
	keys  []api.Key
	since int // when it was put, or taken last
	taken bool
}

func newBook(room int) *book { return &book{room: room, last: map[api.Key]int{}} }

// woken tells whether one of an entry's keys was touched since it was put and last taken.
func (b *book) woken(x item) bool {
	return slices.ContainsFunc(x.keys, func(k api.Key) bool { return b.last[k] > x.since })
}

func (b *book) ready(x item) bool { return !x.taken && b.woken(x) }

func (b *book) idle(x item) bool { return !x.taken && !b.woken(x) }

// first is the place of the first entry that is so; -1: none is.
func (b *book) first(is func(x item) bool) int { return slices.IndexFunc(b.items, is) }

func (b *book) of(id int) int { return b.first(func(x item) bool { return x.id == id }) }

// ids are those of the entries that are so.
func (b *book) ids(is func(x item) bool) []int {
	l := []int{}
	for _, x := range b.items {
		if is(x) {
			l = append(l, x.id)
		}
	}
	return l
}

func (b *book) Put(id int, keys []api.Key) error {
	switch {
	case b.of(id) >= 0:
		return api.ErrTwice
	case b.Full():
		return api.ErrFull
	}
	b.now++
	b.items = append(b.items, item{id: id, keys: slices.Clone(keys), since: b.now})
	return nil
}

func (b *book) Touch(keys []api.Key) int {
	old := len(b.ids(b.ready))
	b.now++
	for _, k := range keys {
		b.last[k] = b.now
	}
	return len(b.ids(b.ready)) - old
}

func (b *book) Take() (int, bool) {
	at := b.first(b.ready)
	if at < 0 {
		return 0, false
	}
	b.now++
	b.items[at].since, b.items[at].taken = b.now, true
	return b.items[at].id, true
}

func (b *book) Back(id int) bool {
	at := b.of(id)
	if at < 0 || !b.items[at].taken {
		return false
	}
	b.items[at].taken = false
	return b.woken(b.items[at])
}

func (b *book) Remove(id int) bool {
	at := b.of(id)
	if at < 0 {
		return false
	}
	b.items = slices.Delete(b.items, at, at+1)
	return true
}

func (b *book) Len() int { return len(b.items) }

func (b *book) Full() bool { return len(b.items) >= max(b.room, 0) }

func (b *book) Items() []int { return b.ids(func(item) bool { return true }) }

func (b *book) Idle() []int { return b.ids(b.idle) }
