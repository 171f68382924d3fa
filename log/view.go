package log

import (
	"sort"

	"ratchet/api"
)

// view that began. Its log is S, which is the beginning of another one's, and what its primary prepared. What S has stands there alone, however many views begin by it.
type view struct {
	number   uint64 // of the message by which it began; 0 of view 0
	from     *view  // of whose log S is the beginning; nil, if S has nothing
	long     int    // how many S has
	numbers  []uint64
	requests []api.Request
	places   map[asked]int
}

// asked: of whom a request is, and of which time.
type asked struct {
	client int
	time   uint64
}

// by: whom, and at which time, a request was asked.
func by(r api.Request) asked { return asked{r.Client, r.Time} }

// begin: a view, by a message of that number, with so much of another one's log. Those are left out of which S has nothing of their own, so that each one that is gone through later has some.
func begin(number uint64, from *view, long int) *view {
	for from != nil && long <= from.long {
		from = from.from
	}
	return &view{number: number, from: from, long: long, places: map[asked]int{}}
}

// length: of the log.
func (w *view) length() int { return w.long + len(w.requests) }

// log: all of it, from its end on.
func (w *view) log() []api.Request {
	out := make([]api.Request, w.length())
	for rest := out; w != nil; w = w.from {
		copy(rest[w.long:], w.requests)
		rest = rest[:w.long]
	}
	return out
}

// known: how long the log is, by the primary's messages up to a number.
func (w *view) known(number uint64) int {
	return w.long + sort.Search(len(w.numbers), func(i int) bool { return w.numbers[i] > number })
}

// holds: does a request stand in the log? Of another view's log that S is of, the first ones alone do.
func (w *view) holds(x asked) bool {
	for first := w.length(); w != nil; w = w.from {
		if at, some := w.places[x]; some && at < first {
			return true
		}
		first = w.long
	}
	return false
}

// add: a request, by a message of that number.
func (w *view) add(number uint64, r api.Request) {
	w.places[by(r)] = w.length()
	w.numbers = append(w.numbers, number)
	w.requests = append(w.requests, r)
}
