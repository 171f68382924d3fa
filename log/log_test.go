package log_test

import (
	"fmt"
	"math"
	"slices"
	"testing"

	"ratchet/api"
	"ratchet/log"
	"ratchet/message"
)

// The bodies of each Kind.

func prepare(v uint64, r api.Request) api.Body {
	return api.Body{Kind: api.KPrepare, View: v, Request: r}
}

func commit(v, k uint64) api.Body { return api.Body{Kind: api.KCommit, View: v, K: k} }

func change(v uint64) api.Body { return api.Body{Kind: api.KChange, View: v} }

func newView(v uint64, q ...api.Pair) api.Body {
	return api.Body{Kind: api.KNewView, View: v, Q: q}
}

func enter(v uint64) api.Body { return api.Body{Kind: api.KEnter, View: v} }

func check(k uint64) api.Body { return api.Body{Kind: api.KCheck, K: k, Digest: [32]byte{1}} }

// by: a message of a replica.
func by(replica int, number uint64) api.Pair { return api.Pair{Replica: replica, Number: number} }

// says: what a replica says next, knowing so much of the others.
func (h *held) says(i int, deps api.Vector, x api.Body) api.Message {
	m := api.Message{Origin: i, Number: h.p.taken()[i-1] + 1, Deps: deps, Body: x}
	m.Deps[i-1] = m.Number - 1
	return m
}

// at: a message is taken, and counts, or not.
func (h *held) at(i int, deps api.Vector, x api.Body, want bool) *held {
	h.t.Helper()
	m := h.says(i, deps, x)
	is, e := h.p.copied().take(m)
	if is != want || e != api.OK {
		h.t.Fatalf("the test is wrong: %s is %v, %d by the chapter's words", told(m), is, e)
	}
	h.take("it", m)
	h.is("behind " + told(m))
	return h
}

// counts: what a replica says that knows all.
func (h *held) counts(i int, x api.Body) *held {
	h.t.Helper()
	return h.at(i, h.p.taken(), x, true)
}

// idles: it is taken, and counts for nothing.
func (h *held) idles(i int, x api.Body) *held {
	h.t.Helper()
	return h.at(i, h.p.taken(), x, false)
}

// less: what is taken, but so many of a replica less.
func (h *held) less(i int, few uint64) api.Vector {
	v := h.p.taken()
	v[i-1] -= few
	return v
}

// refused: a message has an error, and turns nothing.
func (h *held) refused(name string, m api.Message, want api.Errno) {
	h.t.Helper()
	if _, e := h.p.copied().take(m); e != want {
		h.t.Fatalf("the test is wrong: %s: %s is %d by the chapter's words", name, told(m), e)
	}
	h.take(name, m)
	h.is(name)
}

// rows of requests of client 1 are prepared by a replica, in its view.
func (h *held) prepares(i int, v uint64, times ...uint64) *held {
	h.t.Helper()
	for _, x := range times {
		h.counts(i, prepare(v, asked(1, x)))
	}
	return h
}

// commits: a replica votes so many more of a view.
func (h *held) commits(i int, v uint64, many int) *held {
	h.t.Helper()
	for range many {
		voted, _ := h.p.stand(i).voted(v)
		h.counts(i, commit(v, uint64(voted)+1))
	}
	return h
}

// changes: these replicas change to a view; it answers by which messages.
func (h *held) changes(v uint64, replicas ...int) []api.Pair {
	h.t.Helper()
	var q []api.Pair
	for _, i := range replicas {
		h.counts(i, change(v))
		q = append(q, by(i, h.p.taken()[i-1]))
	}
	return q
}

// begins: a view begins by new Changes of these replicas.
func (h *held) begins(v uint64, replicas ...int) *held {
	h.t.Helper()
	q := h.changes(v, replicas...)
	return h.counts(h.p.primary(v), newView(v, q...))
}

// ends fails unless just these views began, each with that log.
func (h *held) ends(want ...string) {
	h.t.Helper()
	var got []string
	for _, v := range h.l.Views() {
		l, ok := h.l.Log(v)
		if !ok {
			h.t.Errorf("P15.2: %d began, and has no log", v)
		}
		got = append(got, fmt.Sprintf("%d: %s", v, row(l)))
	}
	if !slices.Equal(got, want) {
		h.t.Errorf("P15.2: at the end %q and not %q", got, want)
	}
}

// voted fails unless that is what a replica voted in a view.
func (h *held) voted(i int, v uint64, want int) *held {
	h.t.Helper()
	if got, ok := h.l.Voted(i, v); got != want || !ok {
		h.t.Errorf("P15.2: Voted(%d, %d) = %d, %v and not %d", i, v, got, ok, want)
	}
	return h
}

// P15.1: New takes odd numbers from 3 to MaxReplicas, and begins with view 0, of no request.
func TestNew(t *testing.T) {
	bad := []int{math.MinInt, math.MinInt + 3, -11, -3, -2, -1, 0, 1, 2, 4, 6, 8, 10, 12, 13, 15, 1<<8 + 3, 1<<32 + 3, 1<<62 + 1, math.MaxInt}
	for _, n := range bad {
		if l, e := log.New(n); l != nil || e != api.ErrArg {
			t.Errorf("P15.1: New(%d) = %v, %d", n, l, e)
		}
	}
	for _, n := range []int{3, 5, 7, 9, 11} {
		h, other := fresh(t, n), fresh(t, n)
		h.counts(1, prepare(0, asked(1, 1))).counts(n, commit(0, 1)).begins(uint64(n-1), other.few()...)
		other.is("another one's messages")
		other.ends("0: ")
		h.ends("0: 1@1", fmt.Sprintf("%d: 1@1", n-1))
	}
}

// few: the last f + 1 replicas.
func (h *held) few() []int {
	var l []int
	for i := (h.p.n-1)/2 + 1; i <= h.p.n; i++ {
		l = append(l, i)
	}
	return l
}

// The chapter's examples.
func TestExamples(t *testing.T) {
	h := fresh(t, 3).counts(1, prepare(0, asked(1, 1)))
	h.ends("0: 1@1")
	h.counts(2, commit(0, 1)).voted(2, 0, 1)
	fresh(t, 3).counts(1, prepare(0, asked(1, 1))).at(2, api.Vector{}, commit(0, 1), false).voted(2, 0, 0)
}

// story: logs of which all calls tell something: views 0, 1 and 2 began, and each replica voted.
func story(t *testing.T) *held {
	h := fresh(t, 3).prepares(1, 0, 1, 2).commits(2, 0, 1).begins(1, 1, 2)
	h.prepares(2, 1, 3).counts(3, enter(1)).commits(3, 1, 1)
	return h.begins(2, 2, 3).counts(1, enter(2)).commits(1, 2, 0).prepares(3, 2, 5)
}

// P15.2: what the story makes.
func TestStory(t *testing.T) {
	h := story(t)
	h.ends("0: 1@1 1@2", "1: 1@1 1@2 1@3", "2: 1@1 1@2 1@3 1@5")
	h.voted(1, 0, 2).voted(2, 0, 1).voted(3, 0, 0).voted(2, 1, 3).voted(3, 1, 3).voted(1, 2, 3).voted(3, 2, 4)
	for i, want := range []uint64{2, 2, 2} {
		if got := h.l.Greatest(i + 1); got != want {
			t.Errorf("P15.2: Greatest(%d) = %d and not %d", i+1, got, want)
		}
	}
	for i, want := range []api.Pair{by(1, 3), by(2, 5), by(2, 3)} {
		if v, number := h.l.Change(i + 1); v != uint64(want.Replica) || number != want.Number {
			t.Errorf("P15.2: Change(%d) = %d, %d and not %d", i+1, v, number, want)
		}
	}
}

// mayNot: bodies that may not be, of each Kind.
func mayNot() map[string]api.Body {
	long := make([]api.Pair, 12)
	for i := range long {
		long[i] = by(i+1, 1)
	}
	return map[string]api.Body{
		"no Kind":                   {},
		"no Kind, with a View":      {View: 1},
		"a Kind above all":          {Kind: 7, View: 1},
		"a Kind far above":          {Kind: 255},
		"a Prepare of no client":    prepare(0, api.Request{Time: 1}),
		"a Prepare of no time":      prepare(0, api.Request{Client: 1}),
		"a Prepare of client 9":     prepare(0, api.Request{Client: 9, Time: 1}),
		"a Prepare of MaxView":      prepare(1<<30, asked(1, 1)),
		"a Prepare with a K":        {Kind: api.KPrepare, Request: asked(1, 1), K: 1},
		"a Commit of 0":             commit(0, 0),
		"a Commit far above":        commit(0, 1<<62+1),
		"a Commit of MaxView":       commit(1<<30, 1),
		"a Change to 0":             change(0),
		"a Change to MaxView":       change(1 << 30),
		"a Change with Q":           {Kind: api.KChange, View: 1, Q: []api.Pair{by(1, 1)}},
		"a NewView of 0":            newView(0, by(1, 1), by(2, 1)),
		"a NewView of MaxView":      newView(1<<30, by(1, 1), by(2, 1)),
		"a NewView of no Q":         newView(1),
		"a NewView of falling Q":    newView(1, by(2, 1), by(1, 1)),
		"a NewView of twice one":    newView(1, by(2, 1), by(2, 1)),
		"a NewView of the number 0": newView(1, by(1, 0), by(2, 1)),
		"a NewView far above":       newView(1, by(1, 1), by(2, 1<<16+1)),
		"a NewView of replica 0":    newView(1, by(0, 1), by(2, 1)),
		"a NewView of replica 12":   newView(1, by(1, 1), by(12, 1)),
		"a NewView of twelve":       newView(1, long...),
		"an Enter of 0":             enter(0),
		"an Enter of MaxView":       enter(1 << 30),
		"a Check of 0":              check(0),
		"a Check of a View":         {Kind: api.KCheck, K: 4, View: 1},
	}
}

// P15.1: a message that may not be is ErrArg, and turns nothing.
func TestMayNot(t *testing.T) {
	for name, x := range mayNot() {
		for i := 1; i <= 3; i++ {
			h := story(t)
			h.refused(name, h.says(i, h.p.taken(), x), api.ErrArg)
			h.refused(name+", and its number is another one's", api.Message{Origin: i, Number: 1, Body: x}, api.ErrArg)
			h.counts(i, check(4))
		}
	}
	h := story(t)
	for name, m := range map[string]api.Message{
		"nothing":             {},
		"the number 0":        {Origin: 1, Body: check(1)},
		"a number far above":  {Origin: 1, Number: 1<<16 + 1, Deps: api.Vector{1 << 16}, Body: check(1)},
		"the last number":     {Origin: 1, Number: math.MaxUint64, Deps: api.Vector{math.MaxUint64 - 1}, Body: check(1)},
		"Deps that are above": {Origin: 1, Number: 5, Deps: api.Vector{4, 1<<16 + 1}, Body: check(1)},
		"Deps of nobody":      {Origin: 1, Number: 5, Deps: api.Vector{4, 0, 0, 0, 0, 0, 0, 0, 0, 0, math.MaxUint64}, Body: check(1)},
	} {
		h.refused(name, m, api.ErrArg)
	}
	h.counts(1, check(1))
}

// P15.1: an Origin, or a replica of Q, above n is ErrArg; at n it is taken.
func TestStrangers(t *testing.T) {
	for _, n := range []int{3, 5, 7, 9, 11} {
		for _, i := range append(strangers(n), 11) {
			if i > 0 && i <= n {
				continue
			}
			h := fresh(t, n)
			m := api.Message{Origin: i, Number: 1, Body: check(1)}
			h.refused("an Origin above n", m, api.ErrArg)
			h.refused("one in Q", h.says(2, api.Vector{}, newView(1, by(1, 1), by(i, 1))), api.ErrArg)
			h.refused("one alone in Q", h.says(2, api.Vector{}, newView(1, by(i, 1))), api.ErrArg)
		}
		h := fresh(t, n).counts(n, check(1)).counts(1, check(1))
		h.idles(2, newView(1, by(1, 1), by(n, 1)))
		q := make([]api.Pair, 0, 11)
		for i := range n {
			q = append(q, by(i+1, 1))
		}
		h.idles(2, newView(1, q...))
		if n < 11 {
			h.refused("n replicas, and one more", h.says(2, h.p.taken(), newView(1, append(q, by(n+1, 1))...)), api.ErrArg)
		}
	}
}

// P15.1: a number is the next one of its origin, or ErrOrder.
func TestNumbers(t *testing.T) {
	for _, n := range []int{3, 11} {
		for i := 1; i <= n; i++ {
			h := fresh(t, n)
			for next := uint64(1); next <= 4; next++ {
				for number := uint64(1); number <= 6; number++ {
					m := api.Message{Origin: i, Number: number, Body: change(9)}
					if m.Deps[i-1] = number - 1; number != next {
						h.refused("not the next one", m, api.ErrOrder)
					}
				}
				m := api.Message{Origin: i, Number: 1 << 16, Body: change(9)}
				m.Deps[i-1] = 1<<16 - 1
				h.refused("far above", m, api.ErrOrder)
				h.counts(i, check(next))
			}
			h.counts(i, change(9))
		}
	}
}

// P15.1: Deps name what was taken, of each replica, or it is ErrOrder; of its own origin too, which May says ahead.
func TestDeps(t *testing.T) {
	for _, n := range []int{3, 5, 11} {
		h := fresh(t, n)
		for i := 1; i <= n; i++ {
			for range i {
				h.counts(i, check(1))
			}
		}
		for i := 1; i <= n; i++ {
			for j := 1; j <= 11; j++ {
				deps := h.p.taken()
				if deps[j-1]++; i == j {
					m := h.says(i, deps, check(1))
					for _, own := range []uint64{m.Number - 2, m.Number, m.Number + 1} {
						m.Deps[i-1] = own
						h.refused("its own Deps", m, api.ErrArg)
					}
					continue
				}
				h.refused("one more than was taken", h.says(i, deps, change(1)), api.ErrOrder)
				deps[j-1] = 1 << 16
				h.refused("many more than were taken", h.says(i, deps, change(1)), api.ErrOrder)
			}
		}
		for i := 1; i <= n; i++ {
			for j := 1; j <= n; j++ {
				if i != j {
					h.at(i, h.less(j, 1), check(1), true).at(i, vec(), check(1), true).counts(i, check(1))
				}
			}
		}
	}
}

// vec: what is known of the replicas from 1 on.
func vec(known ...uint64) api.Vector {
	var v api.Vector
	copy(v[:], known)
	return v
}

// P15.1: Deps may fall: a message is taken by what was taken, whatever those ahead of it knew.
func TestDepsFall(t *testing.T) {
	h := fresh(t, 3).prepares(1, 0, 1, 2, 3)
	h.at(2, vec(3), commit(0, 1), true).at(2, vec(1), commit(0, 2), false).at(2, vec(2), commit(0, 2), true).at(2, vec(0), commit(0, 3), false).at(2, vec(3), commit(0, 3), true)
	h.voted(2, 0, 3)
}

// P15.1: ErrArg goes ahead of ErrOrder.
func TestErrArgAhead(t *testing.T) {
	h := fresh(t, 3).counts(1, check(1))
	for _, number := range []uint64{1, 2, 3, 1 << 16} {
		for _, ahead := range []uint64{0, 1} {
			m := api.Message{Origin: 1, Number: number, Deps: vec(number-1, ahead), Body: change(0)}
			h.refused("what may not be", m, api.ErrArg)
			m.Body = newView(1, by(1, 1), by(4, 1))
			h.refused("one in Q", m, api.ErrArg)
			m = api.Message{Origin: 4, Number: number, Deps: vec(0, ahead, 0, number-1), Body: change(1)}
			h.refused("an Origin above n", m, api.ErrArg)
		}
	}
}

// P15.1: an error turns nothing: what is handed in rightly behind it counts as if nothing had been.
func TestErrorTurnsNothing(t *testing.T) {
	h := fresh(t, 3).prepares(1, 0, 1).commits(2, 0, 1)
	q := h.changes(1, 1, 3)
	for _, x := range []api.Body{prepare(0, asked(2, 2)), commit(0, 1), commit(0, 2), change(1), change(5), newView(1, q...), enter(1), check(4)} {
		for i := 1; i <= 3; i++ {
			m := h.says(i, h.p.taken(), x)
			m.Deps[i%3]++
			h.refused("Deps above", m, api.ErrOrder)
			m = h.says(i, h.p.taken(), x)
			m.Number++
			m.Deps[i-1]++
			h.refused("a number above", m, api.ErrOrder)
			m = api.Message{Origin: i, Number: 1, Body: x}
			h.refused("a number below", m, api.ErrOrder)
		}
	}
	h.counts(2, newView(1, q...)).counts(1, enter(1)).prepares(2, 1, 9)
	h.ends("0: 1@1", "1: 1@1 1@9")
}

// P15.1: a message that counts for nothing is taken all the same, and its number with it; others may name it.
func TestIdleIsTaken(t *testing.T) {
	for _, x := range []api.Body{prepare(3, asked(1, 1)), commit(0, 1), newView(1, by(1, 1), by(2, 1)), newView(2, by(3, 9)), enter(1), prepare(1, spoilt(asked(1, 1)))} {
		for i := 1; i <= 3; i++ {
			h := fresh(t, 3)
			m := h.says(i, vec(), x)
			h.idles(i, x)
			h.refused("it again", m, api.ErrOrder)
			other := 1 + i%3
			deps := vec()
			deps[i-1] = 1
			h.at(other, deps, check(1), true).counts(i, change(1)).counts(other, change(1))
			deps[i-1] = 3
			h.refused("its third", h.says(other, deps, check(1)), api.ErrOrder)
		}
	}
}

// P15.1: a message's tag is not looked at.
func TestTagIsNotAsked(t *testing.T) {
	for _, tag := range [][32]byte{{}, {1}, {31: 255}} {
		h := fresh(t, 3)
		for _, m := range []api.Message{h.says(1, vec(), prepare(0, asked(1, 1))), h.says(2, vec(1), commit(0, 1)), h.says(3, vec(), change(1))} {
			m.Tag = tag
			if counts, e := h.take("its tag", m); !counts || e != api.OK {
				t.Errorf("P15.1: with the tag %x: %v, %d", tag, counts, e)
			}
		}
		h.is("tags")
	}
}

// P15.2: a Change counts above the greatest view of its origin.
func TestChange(t *testing.T) {
	fresh(t, 3).counts(1, change(3)).idles(1, change(3)).idles(1, change(2)).idles(1, change(1)).counts(1, change(4)).idles(2, nobodys()).counts(2, change(1)).counts(3, change(1<<30-1)).idles(3, change(1<<30-1)).idles(3, change(7))
	h := fresh(t, 3).begins(1, 1, 3).counts(1, enter(1)).idles(1, change(1)).idles(2, change(1)).counts(2, change(2)).counts(1, change(2))
	for i, want := range []api.Pair{by(2, 4), by(2, 3), by(1, 1)} {
		if v, number := h.l.Change(i + 1); v != uint64(want.Replica) || number != want.Number {
			t.Errorf("P15.2: Change(%d) = %d, %d and not %v", i+1, v, number, want)
		}
	}
}

// nobodys: a Commit of what nobody prepared, which counts for nothing.
func nobodys() api.Body { return commit(0, 1<<62) }

// P15.2: the last Change that counts stays the last, behind those that count for nothing.
func TestLastChange(t *testing.T) {
	h := fresh(t, 5).idles(4, commit(0, 1)).counts(4, change(2)).idles(4, change(2)).idles(4, change(1)).counts(4, check(1))
	if v, number := h.l.Change(4); v != 2 || number != 2 {
		t.Errorf("P15.2: Change(4) = %d, %d and not 2, 2", v, number)
	}
	h.counts(4, change(7))
	if v, number := h.l.Change(4); v != 7 || number != 6 {
		t.Errorf("P15.2: Change(4) = %d, %d and not 7, 6", v, number)
	}
}

// P15.2: nobody but its primary begins a view.
func TestNewViewByPrimary(t *testing.T) {
	for _, n := range []int{3, 5, 11} {
		for v := uint64(1); v <= uint64(n)+1; v++ {
			h := fresh(t, n)
			q := h.changes(v, h.few()...)
			for i := 1; i <= n; i++ {
				if i != h.p.primary(v) {
					h.idles(i, newView(v, q...))
				}
			}
			h.counts(h.p.primary(v), newView(v, q...))
			h.ends("0: ", fmt.Sprintf("%d: ", v))
		}
	}
	v := uint64(1<<30 - 1)
	h := fresh(t, 3)
	q := h.changes(v, 2, 3)
	h.idles(2, newView(v, q...)).idles(3, newView(v, q...)).counts(1+int(v%3), newView(v, q...))
}

// P15.2: its primary has to be free to enter it.
func TestNewViewMayBeEntered(t *testing.T) {
	h := fresh(t, 3)
	q := h.changes(1, 1, 3)
	h.counts(2, change(2)).idles(2, newView(1, q...)) // below its greatest
	h.ends("0: ")

	h = fresh(t, 3)
	q = h.changes(1, 1, 3)
	h.counts(2, change(1)).counts(2, newView(1, q...)).idles(2, newView(1, q...)).idles(2, newView(1, by(1, 1), by(2, 1))) // again
	h.prepares(2, 1, 1).idles(2, newView(1, q...))
	h.ends("0: ", "1: 1@1")

	h = fresh(t, 3)
	q = h.changes(1, 1, 3)
	h.begins(2, 1, 3).counts(2, enter(2)).idles(2, newView(1, q...)) // below one that it entered
	h.ends("0: ", "2: ")

	h = fresh(t, 3)
	q = h.changes(1, 1, 3)
	h.begins(2, 1, 3).counts(2, newView(1, q...)).counts(2, enter(2)) // others may have gone on
	h.ends("0: ", "1: ", "2: ")
}

// P15.2: Q are just f + 1.
func TestNewViewByMany(t *testing.T) {
	for _, n := range []int{3, 5, 7, 9, 11} {
		h := fresh(t, n)
		var all []int
		for i := range n {
			all = append(all, i+1)
		}
		q := h.changes(1, all...)
		for many := 1; many <= n; many++ {
			if many != (n-1)/2+1 {
				h.idles(2, newView(1, q[:many]...)).idles(2, newView(1, q[n-many:]...))
			}
		}
		h.counts(2, newView(1, q[(n-1)/2:]...))
	}
}

// P15.2: Q's messages are some that the maker knew.
func TestNewViewKnown(t *testing.T) {
	for _, i := range []int{1, 3} {
		h := fresh(t, 3).counts(1, check(1)).counts(3, check(1))
		q := h.changes(1, 1, 3)
		h.at(2, h.less(i, 1), newView(1, q...), false).at(2, h.less(i, 2), newView(1, q...), false).at(2, vec(), newView(1, q...), false)
		h.counts(1, check(1)).counts(3, check(1))
		h.at(2, h.less(i, 1), newView(1, q...), true)
	}
	for _, i := range []int{3, 4, 5} { // of five, those behind the first
		h := fresh(t, 5)
		q := h.changes(1, 3, 4, 5)
		h.at(2, h.less(i, 1), newView(1, q...), false)
		h.at(2, vec(0, 0, 1, 1, 1), newView(1, q...), true)
	}
	h := fresh(t, 3)
	h.changes(1, 1, 3)
	h.idles(2, newView(1, by(1, 1), by(3, 2))).idles(2, newView(1, by(1, 2), by(3, 1))).idles(2, newView(1, by(1, 1<<16), by(3, 1))).counts(2, newView(1, by(1, 1), by(3, 1)))
}

// P15.2: Q's messages are Changes to the View, which count.
func TestNewViewChanges(t *testing.T) {
	for _, place := range []int{0, 1, 2} {
		h := fresh(t, 5)
		i := place + 3
		var others []int
		for j := 3; j <= 5; j++ {
			if j != i {
				others = append(others, j)
			}
		}
		h.counts(i, check(1)).idles(i, commit(0, 1)).counts(i, change(1)).idles(i, change(1)).counts(i, change(3)).idles(i, change(1)).counts(i, change(6))
		q := slices.Insert(h.changes(1, others...), place, by(i, 1))
		for number, want := range []bool{false, false, true, false, false, false, false} {
			if !want {
				q[place].Number = uint64(number) + 1
				h.idles(2, newView(1, q...))
			}
		}
		q[place].Number = 3 // though it changed on since
		h.counts(2, newView(1, q...))
	}
	for _, v := range []uint64{1, 2, 3, 5, 6} { // all of Q changed, to another view
		h := fresh(t, 3)
		q := h.changes(4, 1, 3)
		h.idles(1+int(v%3), newView(v, q...))
		h.ends("0: ")
	}
}

// P15.2: the primary may be of Q itself, or not have changed at all.
func TestNewViewOfPrimary(t *testing.T) {
	h := fresh(t, 3).begins(1, 2, 3)
	h.ends("0: ", "1: ")
	h = fresh(t, 3)
	h.changes(1, 3, 2)
	h.idles(2, newView(1, by(2, 2), by(3, 1))).counts(2, newView(1, by(2, 1), by(3, 1)))
	h = fresh(t, 3).begins(1, 1, 3)
	if v, number := h.l.Change(2); v != 0 || number != 0 {
		t.Errorf("P15.2: Change(2) = %d, %d, though it began the view without one", v, number)
	}
}

// P15.2: by votes in one view, S is the most that one of Q voted there.
func TestVotesInOneView(t *testing.T) {
	of := func(votes ...int) *held { // three prepared, and so many voted by 2 and 3; then view 1 begins by these two
		h := fresh(t, 3).prepares(1, 0, 1, 2, 3)
		return h.commits(2, 0, votes[0]).commits(3, 0, votes[1]).begins(1, 2, 3)
	}
	for two := range 4 {
		for three := range 4 {
			want := []string{"", "1@1", "1@1 1@2", "1@1 1@2 1@3"}[max(two, three)]
			h := of(two, three)
			h.ends("0: 1@1 1@2 1@3", "1: "+want)
			h.voted(2, 1, max(two, three)).voted(2, 0, two)
		}
	}
	h := fresh(t, 3).prepares(1, 0, 1, 2).commits(2, 0, 2).begins(1, 1, 3) // the primary of 0 voted by preparing
	h.ends("0: 1@1 1@2", "1: 1@1 1@2")
	h = fresh(t, 5).prepares(1, 0, 1, 2, 3).commits(2, 0, 3).commits(3, 0, 1).begins(1, 3, 4, 5) // those that are not of Q say nothing
	h.ends("0: 1@1 1@2 1@3", "1: 1@1")
}

// P15.2: what is prepared and voted behind S is no part of it.
func TestVotesBehind(t *testing.T) {
	h := fresh(t, 5).prepares(1, 0, 1)
	q := h.changes(1, 3, 4, 5)
	h.prepares(1, 0, 2).commits(2, 0, 2).counts(2, newView(1, q...)).prepares(1, 0, 3)
	h.ends("0: 1@1 1@2 1@3", "1: ")
	h.prepares(2, 1, 2).voted(2, 1, 1)
	h.ends("0: 1@1 1@2 1@3", "1: 1@2")
}

// P15.2: u is the greatest view below View that one of Q entered; more that was voted below it says nothing.
func TestVotesInSeveralViews(t *testing.T) {
	h := fresh(t, 5).prepares(1, 0, 1, 2, 3, 4).commits(5, 0, 4).commits(4, 0, 1)
	h.begins(1, 2, 3, 4).prepares(2, 1, 9).counts(3, enter(1)).voted(3, 1, 1) // view 1 has 1@1 1@9
	h.begins(2, 3, 4, 5)                                                      // of Q 3 alone entered view 1, and voted 1 there; 5 voted 4 in view 0
	h.ends("0: 1@1 1@2 1@3 1@4", "1: 1@1 1@9", "2: 1@1")
	h.voted(3, 2, 1).counts(5, enter(2)).voted(5, 2, 1).voted(5, 0, 4)

	h = fresh(t, 5).prepares(1, 0, 1, 2).commits(5, 0, 2).begins(1, 2, 3, 4).counts(4, enter(1))
	h.begins(2, 1, 4, 5) // 1 and 5 voted 2 in view 0, and 4 entered view 1 with nothing
	h.ends("0: 1@1 1@2", "1: ", "2: ")
}

// P15.2: of Q each one may have entered another view last.
func TestVotesInNoCommonView(t *testing.T) {
	h := fresh(t, 5).prepares(1, 0, 1, 2, 3).commits(4, 0, 3).commits(3, 0, 1)
	h.begins(1, 2, 3, 5).prepares(2, 1, 4, 5).counts(3, enter(1)).commits(3, 1, 1)
	h.begins(2, 1, 3, 5).prepares(3, 2, 6).counts(5, enter(2))
	// 4 is in view 0 with three, 2 in view 1 with three, 5 in view 2 with two
	h.voted(4, 0, 3).voted(2, 1, 3).voted(5, 2, 2)
	h.begins(3, 2, 4, 5)
	h.ends("0: 1@1 1@2 1@3", "1: 1@1 1@4 1@5", "2: 1@1 1@4 1@6", "3: 1@1 1@4")
	h.voted(4, 3, 2)
}

// P15.2: what one of Q entered above View says nothing, and what it voted there neither.
func TestVotesAboveView(t *testing.T) {
	h := fresh(t, 3).prepares(1, 0, 1, 2).commits(3, 0, 1)
	q := h.changes(1, 1, 3)
	h.begins(2, 1, 3).prepares(3, 2, 3).counts(1, enter(2)).commits(1, 2, 1)
	h.counts(2, newView(1, q...)).prepares(2, 1, 7)
	h.ends("0: 1@1 1@2", "1: 1@1 1@2 1@7", "2: 1@1 1@2 1@3")
	h.counts(2, enter(2)).idles(1, enter(1))
}

// P15.2: S may be nothing, and its u then is no matter; what is prepared in the view stands alone.
func TestNothingOfU(t *testing.T) {
	h := fresh(t, 3).prepares(1, 0, 1).begins(1, 2, 3).prepares(2, 1, 1, 2).counts(3, enter(1)).begins(5, 1, 3)
	h.ends("0: 1@1", "1: 1@1 1@2", "5: ")
	h.prepares(3, 5, 2)
	h.ends("0: 1@1", "1: 1@1 1@2", "5: 1@2")
}

// P15.2: an S of an S: views begin by views that have nothing, or something, of their own.
func TestChainOfViews(t *testing.T) {
	h := fresh(t, 3).prepares(1, 0, 1, 2, 3)
	h.begins(1, 1, 3).counts(3, enter(1)).begins(2, 2, 3).counts(1, enter(2)).prepares(3, 2, 4).begins(3, 1, 2).counts(2, enter(3)).commits(2, 3, 0)
	h.ends("0: 1@1 1@2 1@3", "1: 1@1 1@2 1@3", "2: 1@1 1@2 1@3 1@4", "3: 1@1 1@2 1@3")
	h.prepares(1, 3, 4, 5).commits(2, 3, 2).begins(4, 2, 3)
	h.ends("0: 1@1 1@2 1@3", "1: 1@1 1@2 1@3", "2: 1@1 1@2 1@3 1@4", "3: 1@1 1@2 1@3 1@4 1@5", "4: 1@1 1@2 1@3 1@4 1@5")
	for _, v := range []uint64{0, 1, 2, 3, 4} {
		for time := uint64(1); time <= 3; time++ {
			if !h.l.Holds(v, 1, time) || h.l.Holds(v, 2, time) {
				t.Errorf("P15.2: Holds(%d, 1, %d)", v, time)
			}
		}
	}
	if h.l.Holds(0, 1, 4) || h.l.Holds(1, 1, 4) || !h.l.Holds(2, 1, 4) || !h.l.Holds(3, 1, 4) || !h.l.Holds(4, 1, 5) || h.l.Holds(2, 1, 5) {
		t.Error("P15.2: Holds of what stands in some views alone")
	}
}

// P15.2: a view is entered that began, by a message that is known.
func TestEnter(t *testing.T) {
	fresh(t, 3).idles(1, enter(1)).idles(2, enter(1)).idles(3, enter(1)).idles(1, enter(3)).idles(1, enter(1<<30-1))
	for _, i := range []int{1, 3} {
		h := fresh(t, 3).counts(2, check(1)).counts(2, check(1)).begins(1, 1, 3).counts(2, check(1))
		h.at(i, vec(), enter(1), false).at(i, h.less(2, 2), enter(1), false).at(i, h.less(2, 4), enter(1), false)
		h.at(i, h.less(2, 1), enter(1), true).at(i, h.less(2, 1), enter(1), false).voted(i, 1, 0)
	}
	h := fresh(t, 3).begins(1, 1, 3).at(3, alone(2, 1), enter(1), true) // what it names is enough, be it ever so little
	h.idles(2, enter(1)).voted(2, 1, 0)
}

// alone: so much known of one replica, and nothing of the others.
func alone(i int, many uint64) api.Vector {
	var v api.Vector
	v[i-1] = many
	return v
}

// P15.2: a view is entered at and above the greatest one, above all that were entered; with S as what was voted.
func TestEnterGreatest(t *testing.T) {
	h := fresh(t, 5).prepares(1, 0, 1, 2).commits(4, 0, 2).begins(2, 3, 4, 5).prepares(3, 2, 3)
	h.counts(1, change(1)).counts(1, enter(2)).voted(1, 2, 2)                // above its greatest
	h.counts(2, change(2)).counts(2, enter(2)).voted(2, 2, 2)                // at it
	h.counts(4, change(3)).idles(4, enter(2))                                // below it
	h.counts(5, enter(2)).idles(5, enter(2)).commits(5, 2, 1).voted(5, 2, 3) // once
	q := append(h.changes(3, 2), append([]api.Pair{by(4, h.p.taken()[3]-1)}, h.changes(3, 5)...)...)
	h.counts(4, newView(3, q...)).counts(1, enter(3)).idles(1, enter(2)) // below one that was entered
	h.counts(3, enter(3)).idles(3, enter(3)).voted(3, 3, 3)              // its u is 2, of which 5 voted all
	h.ends("0: 1@1 1@2", "2: 1@1 1@2 1@3", "3: 1@1 1@2 1@3")
}

// P15.2: what S has was voted by each that enters, whatever it had voted itself, and what is prepared behind S was not.
func TestEnterVotes(t *testing.T) {
	h := fresh(t, 3).prepares(1, 0, 1, 2, 3).commits(2, 0, 2).begins(1, 2, 3).prepares(2, 1, 5, 6)
	h.counts(3, enter(1)).voted(3, 1, 2).counts(1, enter(1)).voted(1, 1, 2).voted(1, 0, 3).voted(2, 1, 4)
	h.idles(3, commit(1, 2)).idles(3, commit(1, 4)).counts(3, commit(1, 3))
}

// P15.2: nobody but the primary prepares, in an open view, what is authentic and not in its log.
func TestPrepare(t *testing.T) {
	h := fresh(t, 3).idles(2, prepare(0, asked(1, 1))).idles(3, prepare(0, asked(1, 1))).counts(1, prepare(0, asked(1, 1)))
	h.ends("0: 1@1")
	h.idles(2, prepare(1, asked(1, 2))).idles(3, prepare(2, asked(1, 2))).idles(1, prepare(3, asked(1, 2))) // views that did not begin
	h.begins(1, 2, 3).idles(1, prepare(1, asked(1, 2))).idles(3, prepare(1, asked(1, 2))).counts(1, enter(1)).idles(1, prepare(1, asked(1, 2))).counts(2, prepare(1, asked(1, 2)))
	h.idles(2, prepare(0, asked(1, 3))).idles(1, prepare(0, asked(1, 3)))
	h.ends("0: 1@1", "1: 1@2")
}

// P15.2: a request that is not authentic counts for nothing.
func TestPrepareAuthentic(t *testing.T) {
	good := asked(1, 1)
	bad := map[string]api.Request{"spoilt": spoilt(good)}
	for name, turn := range map[string]func(r *api.Request){
		"no tag":         func(r *api.Request) { r.Tag = [32]byte{} },
		"another time":   func(r *api.Request) { r.Time = 2 },
		"another client": func(r *api.Request) { r.Client = 2 },
		"another key":    func(r *api.Request) { r.Op.Key = "b" },
		"another tag":    func(r *api.Request) { r.Tag = asked(1, 2).Tag },
	} {
		r := good
		turn(&r)
		bad[name] = r
	}
	for name, r := range bad {
		h := fresh(t, 3).idles(1, prepare(0, r)).counts(1, prepare(0, good)).idles(1, prepare(0, r))
		h.ends("0: 1@1")
		if h.l.Holds(0, 1, 2) || h.l.Holds(0, 2, 1) {
			t.Errorf("P15.2: %s: it stands in the log", name)
		}
	}
}

// P15.2: a request whose Client and Time stand in the log already, in S or behind it, counts for nothing; in another view's log they may stand.
func TestPrepareAgain(t *testing.T) {
	other := message.Signed(api.Request{Client: 1, Time: 1, Op: api.Op{Kind: api.OpGet, Key: "z"}})
	h := fresh(t, 3).counts(1, prepare(0, asked(1, 1))).idles(1, prepare(0, asked(1, 1))).idles(1, prepare(0, other))
	h.counts(1, prepare(0, asked(1, 2))).counts(1, prepare(0, asked(2, 1))).counts(1, prepare(0, asked(2, 2))).idles(1, prepare(0, asked(2, 2)))
	h.commits(2, 0, 2).begins(1, 2, 3) // S is 1@1 1@2
	h.idles(2, prepare(1, asked(1, 1))).idles(2, prepare(1, other)).idles(2, prepare(1, asked(1, 2)))
	h.counts(2, prepare(1, asked(2, 2))).idles(2, prepare(1, asked(2, 2))).counts(2, prepare(1, asked(2, 1))).counts(2, prepare(1, asked(1, 3))).idles(2, prepare(1, asked(1, 3)))
	h.ends("0: 1@1 1@2 2@1 2@2", "1: 1@1 1@2 2@2 2@1 1@3")
	h = fresh(t, 3).counts(1, prepare(0, asked(1, 1))).begins(1, 2, 3).counts(2, prepare(1, other)) // S is nothing
	if l, _ := h.l.Log(1); len(l) != 1 || l[0] != other {
		t.Errorf("P15.2: the log of 1 is %+v", l)
	}
}

// P15.2: in a view that its primary left nothing is prepared.
func TestPrepareOpen(t *testing.T) {
	h := fresh(t, 3).prepares(1, 0, 1).counts(1, change(1)).idles(1, prepare(0, asked(1, 2)))
	h.ends("0: 1@1")
	h = fresh(t, 3).begins(1, 1, 3).prepares(2, 1, 1).begins(2, 1, 2).idles(2, prepare(1, asked(1, 2))).counts(2, enter(2)).idles(2, prepare(1, asked(1, 2)))
	h.prepares(3, 2, 2)
	h.ends("0: ", "1: 1@1", "2: 1@1 1@2")
	h = fresh(t, 3)
	h.changes(3, 1)
	h.idles(1, prepare(3, asked(1, 1))).idles(1, prepare(0, asked(1, 1))) // its own view, which did not begin
}

// P15.2: the primary commits nothing, and in a view that did not begin nobody does.
func TestCommitByOthers(t *testing.T) {
	h := fresh(t, 3).prepares(1, 0, 1, 2).idles(1, commit(0, 1)).idles(1, commit(0, 2)).idles(1, commit(0, 3)).voted(1, 0, 2)
	h.counts(2, commit(0, 1)).counts(3, commit(0, 1))
	h.begins(1, 1, 2).prepares(2, 1, 5).idles(2, commit(1, 3)).idles(2, commit(1, 4)).voted(2, 1, 3)
	h = fresh(t, 3).prepares(1, 0, 1)
	for _, v := range []uint64{1, 2, 3, 4, 1<<30 - 1} {
		h.idles(1, commit(v, 1)).idles(2, commit(v, 1)).idles(3, commit(v, 1))
	}
	h.counts(3, change(1)).idles(3, commit(1, 1))
}

// P15.2: a Commit is of one more than was voted.
func TestCommitK(t *testing.T) {
	for voted := range 4 {
		h := fresh(t, 3).prepares(1, 0, 1, 2, 3, 4, 5, 6).commits(2, 0, voted)
		for k := uint64(1); k <= 8; k++ {
			if k != uint64(voted)+1 {
				h.idles(2, commit(0, k))
			}
		}
		h.idles(2, commit(0, 1<<32+uint64(voted)+1)).idles(2, commit(0, 1<<62)).voted(2, 0, voted)
		h.counts(2, commit(0, uint64(voted)+1)).voted(2, 0, voted+1).voted(3, 0, 0)
	}
}

// P15.2: a Commit is of what the log at its Deps has.
func TestCommitAtDeps(t *testing.T) {
	h := fresh(t, 3).counts(1, check(1)).prepares(1, 0, 1).counts(1, check(2)).idles(1, prepare(0, asked(1, 1))).prepares(1, 0, 2)
	h.at(2, vec(0), commit(0, 1), false).at(2, vec(1), commit(0, 1), false).at(2, vec(2), commit(0, 1), true)
	h.at(2, vec(2), commit(0, 2), false).at(2, vec(3), commit(0, 2), false).at(2, vec(4), commit(0, 2), false).at(2, vec(5), commit(0, 2), true)
	h.idles(2, commit(0, 3)).idles(3, commit(0, 2)).at(3, vec(5), commit(0, 1), true)
	h.at(3, alone(2, 7), commit(0, 2), false) // what others know is no matter
}

// P15.2: in a view with an S, too; what its primary said of the view ahead is no part of this log.
func TestCommitBehindS(t *testing.T) {
	h := fresh(t, 3).prepares(1, 0, 1, 2).commits(3, 0, 2).begins(1, 2, 3).counts(2, check(1)).prepares(2, 1, 4).prepares(2, 1, 5)
	h.counts(3, enter(1)).voted(3, 1, 2)
	for known := uint64(0); known <= 3; known++ { // up to the Check behind the beginning
		h.at(3, alone(2, known), commit(1, 3), false).at(3, vec(2, known), commit(1, 3), false)
	}
	h.at(3, alone(2, 4), commit(1, 3), true).at(3, alone(2, 4), commit(1, 4), false).at(3, alone(2, 5), commit(1, 4), true).idles(3, commit(1, 5))
	h.idles(1, commit(1, 3)).counts(1, enter(1)).idles(1, commit(1, 2)).counts(1, commit(1, 3))
	h.ends("0: 1@1 1@2", "1: 1@1 1@2 1@4 1@5")
}

// P15.2: in a view that is not open, nothing is committed.
func TestCommitOpen(t *testing.T) {
	h := fresh(t, 3).prepares(1, 0, 1, 2, 3).commits(2, 0, 1).counts(2, change(2)).idles(2, commit(0, 2)).voted(2, 0, 1)
	h.commits(3, 0, 1).counts(3, change(1)).idles(3, commit(0, 2))
	h = fresh(t, 3).prepares(1, 0, 1, 2).begins(1, 2, 3).prepares(2, 1, 1).idles(3, commit(1, 1)).idles(1, commit(1, 1)) // not entered yet
	h.commits(1, 1, 0).counts(3, enter(1)).counts(3, commit(1, 1)).idles(3, commit(0, 1))
}

// P15.2: a Check counts always, and turns no log.
func TestCheck(t *testing.T) {
	h := story(t)
	for i := 1; i <= 3; i++ {
		for _, k := range []uint64{1, 4, 5, 1 << 62} {
			h.counts(i, check(k)).at(i, vec(), check(k), true)
		}
	}
	h.ends("0: 1@1 1@2", "1: 1@1 1@2 1@3", "2: 1@1 1@2 1@3 1@5")
}

// P15.4: a view begins once: another Q says nothing, and S stays whatever is voted.
func TestBeginsOnce(t *testing.T) {
	h := fresh(t, 3).prepares(1, 0, 1, 2).commits(3, 0, 1)
	q := h.changes(1, 3, 2)
	slices.Reverse(q)
	h.counts(2, newView(1, q...))
	more := h.changes(1, 1)
	h.idles(2, newView(1, more[0], q[1])).prepares(2, 1, 3).idles(2, newView(1, more[0], q[0])).idles(1, newView(1, more[0], q[1]))
	h.ends("0: 1@1 1@2", "1: 1@1 1@3")
}

// P15.2, R3: what is told is memory of its own, the room behind it too; what is handed in is neither changed nor kept.
func TestOwnMemory(t *testing.T) {
	h := story(t)
	for _, v := range h.l.Views() {
		one, _ := h.l.Log(v)
		two, _ := h.l.Log(v)
		for i := range one {
			one[i] = api.Request{}
		}
		if len(one) > 0 {
			_ = append(one[:len(one)-1], api.Request{Client: 8})
		}
		_ = append(one, api.Request{Client: 7})
		if want := h.p.log(v, math.MaxUint64); !slices.Equal(two, want) {
			t.Errorf("R3: Log(%d) = %s and not %s", v, row(two), row(want))
		}
	}
	clear(h.l.Views())
	_ = append(h.l.Views()[:1], 77, 78)
	h.is("what was told was turned")
	h.prepares(3, 2, 4)

	h = fresh(t, 3)
	q := append(make([]api.Pair, 0, 8), h.changes(1, 1, 3)...)
	room := append(q, by(7, 7))
	h.counts(2, newView(1, q...))
	if !slices.Equal(room, []api.Pair{by(1, 1), by(3, 1), by(7, 7)}) {
		t.Errorf("R3: Take turned Q to %v", room)
	}
	clear(room)
	h.is("what was handed in was turned")
	h.counts(1, enter(1))
}

// P15.2: of no logs there is nothing; ErrNil goes ahead of all others.
func TestNoLogs(t *testing.T) {
	var l *log.Logs
	h := story(t)
	for _, m := range []api.Message{{}, h.says(1, h.p.taken(), check(1)), {Origin: 1, Number: 1, Body: check(1)}, {Origin: 12, Number: 9}, {Origin: 1, Number: 2, Deps: vec(1), Body: change(1)}} {
		if counts, e := l.Take(m); counts || e != api.ErrNil {
			t.Errorf("P15.1: of no logs Take of %s = %v, %d", told(m), counts, e)
		}
	}
	for _, v := range []uint64{0, 1, 1 << 30, math.MaxUint64} {
		if got, ok := l.Log(v); got != nil || ok {
			t.Errorf("P15.2: of no logs Log(%d) = %v, %v", v, got, ok)
		}
		if l.Holds(v, 1, 1) || l.Holds(v, 0, 0) {
			t.Errorf("P15.2: of no logs Holds(%d)", v)
		}
		for _, r := range append(strangers(3), 1, 2, 3) {
			if got, ok := l.Voted(r, v); got != 0 || ok {
				t.Errorf("P15.2: of no logs Voted(%d, %d) = %d, %v", r, v, got, ok)
			}
			at, number := l.Change(r)
			if g := l.Greatest(r); g != 0 || at != 0 || number != 0 {
				t.Errorf("P15.2: of no logs Greatest(%d) = %d, Change = %d, %d", r, g, at, number)
			}
		}
	}
	if got := l.Views(); len(got) != 0 {
		t.Errorf("P15.2: of no logs Views = %v", got)
	}
}

// R1: logs that do not come of New end no call in a panic.
func TestLogsOfNoNew(t *testing.T) {
	l := &log.Logs{}
	l.Take(api.Message{Origin: 1, Number: 1, Body: prepare(0, asked(1, 1))})
	l.Take(api.Message{Origin: 2, Number: 1, Body: newView(1, by(1, 1), by(2, 1))})
	l.Log(0)
	l.Voted(1, 0)
	l.Greatest(1)
	l.Views()
	l.Change(1)
	l.Holds(0, 1, 1)
}

// manyViews: view upon view of three replicas, each with one request of its own, or with none; answers the messages.
func manyViews(views int) []api.Message {
	var l []api.Message
	var known api.Vector
	say := func(i int, x api.Body) {
		l = append(l, api.Message{Origin: i, Number: known[i-1] + 1, Deps: known, Body: x})
		known[i-1]++
	}
	for v := uint64(1); v <= uint64(views); v++ {
		i := 1 + int(v%3)
		next := 1 + i%3
		q := []api.Pair{by(i, known[i-1]+1), by(next, known[next-1]+1)}
		if next < i {
			slices.Reverse(q)
		}
		say(i, change(v))
		say(next, change(v))
		say(i, newView(v, q...))
		if v%2 == 0 {
			say(i, prepare(v, asked(1, v)))
		}
		say(next, enter(v))
		if v%2 == 0 {
			say(next, commit(v, v/2))
		}
	}
	return l
}

// P15.2: many views, each of which begins by the one below it: their logs hold what they have.
func TestManyViews(t *testing.T) {
	const views = 3000
	l, _ := log.New(3)
	for _, m := range manyViews(views) {
		if counts, e := l.Take(m); !counts || e != api.OK {
			t.Fatalf("P15.1: Take of %s = %v, %d", told(m), counts, e)
		}
	}
	for _, v := range []uint64{0, 1, 2, 3, 1000, 1001, views} {
		got, ok := l.Log(v)
		if !ok || len(got) != int(v/2) {
			t.Fatalf("P15.2: Log(%d) has %d requests, %v", v, len(got), ok)
		}
		for i, r := range got {
			if r != asked(1, 2*uint64(i)+2) {
				t.Fatalf("P15.2: Log(%d) has %s at %d", v, row([]api.Request{r}), i)
			}
			if !l.Holds(v, 1, r.Time) || l.Holds(v, 1, r.Time+1) {
				t.Fatalf("P15.2: Holds(%d, 1, %d)", v, r.Time)
			}
		}
		if l.Holds(v, 1, v+2) || l.Holds(v, 1, 0) {
			t.Errorf("P15.2: Holds(%d) of what stands in later logs", v)
		}
	}
}
