package engine

import (
	"custody/api"
	"custody/dvp"
)

// mostKeys are those of an instruction with the most legs, and of its record.
const mostKeys = 1 + 2*api.MaxLegs

// load is how much the tasks of a run have to do at most.
type load struct {
	config   api.Config
	sessions int
	costs    int // turns that the operations end, but for waiting in Commit
	commits  int // operations that commit
	submits  int // those of them that a worker may have to settle
}

func loadOf(c api.Config, sessions [][][]int64) load {
	l := load{config: c, sessions: len(sessions)}
	for _, rows := range sessions {
		for _, row := range rows {
			l.add(row)
		}
	}
	return l
}

// add adds an operation.
func (l *load) add(row []int64) {
	o, err := read(l.config, row)
	switch {
	case err != nil:
		l.costs++
	case o.Code == api.OpSnapshot:
		l.costs += 1 + len(o.Pairs)
	default:
		l.costs += cost(o.Code) + 2*min(l.config.Shards, len(dvp.Keys(o)))
		l.commits++
		if o.Code == api.OpSubmit && l.config.Workers > 0 {
			l.submits++
		}
	}
}

// cost is how many turns an operation that commits ends, but for those of its shards. A Status does not take the queue's mutex.
func cost(code int) int {
	if code == api.OpStatus {
		return 2
	}
	return 3
}

// turns is a number of turns that is enough.
func (l load) turns() int {
	workers := l.config.Workers
	commits := l.commits + l.submits                  // of the workers too
	takes := commits * min(l.submits, l.config.Queue) // each commit makes each that waits ready at most once
	parks := commits * (l.sessions + workers)         // in Commit
	tries := takes * (3 + 2*min(l.config.Shards, mostKeys))
	vain := 2 * workers * (1 + commits + takes)
	return l.sessions + l.costs + parks + tries + vain
}
