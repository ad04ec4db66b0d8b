package ledger

import (
	"slices"

	"custody/api"
)

// draft is the books while an operation is done to them: it notes what stands where something else is put, so that it can be put back.
type draft struct {
	*books
	noted   []entry // in the order in which they were put
	waiting []int   // the queue as it was
}

// entry is what stood under a key.
type entry struct {
	key  api.Key
	cell api.Cell
}

func draftOf(b *books) *draft { return &draft{books: b, waiting: b.queue} }

// Put lays something into the books, and notes what stood there.
func (d *draft) Put(k api.Key, c api.Cell) {
	d.noted = append(d.noted, entry{k, d.books.Get(k)})
	d.books.Put(k, c)
}

// putBack makes the books what they were. The last that was noted comes first, as the first note of a key is what counts.
func (d *draft) putBack() {
	for _, e := range slices.Backward(d.noted) {
		d.books.Put(e.key, e.cell)
	}
	d.books.queue = d.waiting
}
