package decide_test

import (
	"fmt"
	"math"
	"slices"
	"testing"

	"ratchet/api"
	"ratchet/decide"
	"ratchet/log"
)

// The bodies of each Kind.

func prepare(v uint64, r api.Request) api.Body {
	return api.Body{Kind: api.KPrepare, View: v, Request: r}
}

func commit(v, k uint64) api.Body { return api.Body{Kind: api.KCommit, View: v, K: k} }

func change(v uint64) api.Body { return api.Body{Kind: api.KChange, View: v} }

func newView(v uint64, q ...api.Pair) api.Body {
	return api.Body{Kind: api.KNewView, View: v, Q: q}
}

func enter(v uint64) api.Body { return api.Body{Kind: api.KEnter, View: v} }

func check(k uint64) api.Body { return api.Body{Kind: api.KCheck, K: k, Digest: [32]byte{1}} }

// sizes: how many replicas there may be.
var sizes = []int{3, 5, 7, 9, 11}

// badSizes: how many there may not be.
var badSizes = []int{math.MinInt, math.MinInt + 1, -1 << 32, -11, -5, -3, -2, -1, 0, 1, 2, 4, 6, 8, 10, 12, 13, 14, 15, 1<<8 + 3, 1<<32 + 3, 1<<62 + 1, math.MaxInt - 1, math.MaxInt}

// held is logs of n replicas, of which each knows all.
type held struct {
	t     *testing.T
	n     int
	l     *log.Logs
	known api.Vector
	row   []api.Request
}

// fresh: nothing was taken.
func fresh(t *testing.T, n int) *held {
	t.Helper()
	l, e := log.New(n)
	if e != api.OK {
		t.Fatalf("log.New(%d) = %d", n, e)
	}
	return &held{t: t, n: n, l: l}
}

// counts: what a replica says counts; behind it all that is told is what the chapter's words say, and what is decided begins with what was.
func (h *held) counts(i int, x api.Body) *held {
	h.t.Helper()
	m := api.Message{Origin: i, Number: h.known[i-1] + 1, Deps: h.known, Body: x}
	if counts, e := h.l.Take(m); !counts || e != api.OK {
		h.t.Fatalf("the test is wrong: Take of %s = %v, %d", told(m), counts, e)
	}
	h.known[i-1]++
	agrees(h.t, "behind "+told(m), h.l, h.n)
	was := h.row
	if h.row = decide.Decided(h.l, h.n); !begins(h.row, was) {
		h.t.Errorf("P16.3: %s was decided, and behind %s it is %s", row(was), told(m), row(h.row))
	}
	return h
}

// prepares: the primary of a view prepares requests of client 1.
func (h *held) prepares(v uint64, times ...uint64) *held {
	h.t.Helper()
	for _, x := range times {
		h.counts(h.primary(v), prepare(v, asked(1, x)))
	}
	return h
}

// commits: a replica votes so many more of a view.
func (h *held) commits(i int, v uint64, many int) *held {
	h.t.Helper()
	for range many {
		voted, _ := h.l.Voted(i, v)
		h.counts(i, commit(v, uint64(voted)+1))
	}
	return h
}

// enters: some replicas enter a view.
func (h *held) enters(v uint64, replicas ...int) *held {
	h.t.Helper()
	for _, i := range replicas {
		h.counts(i, enter(v))
	}
	return h
}

// begins: a view begins by new Changes of these replicas.
func (h *held) begins(v uint64, replicas ...int) *held {
	h.t.Helper()
	var q []api.Pair
	for _, i := range replicas {
		h.counts(i, change(v))
		q = append(q, api.Pair{Replica: i, Number: h.known[i-1]})
	}
	return h.counts(h.primary(v), newView(v, q...))
}

// primary: of a view.
func (h *held) primary(v uint64) int { return 1 + int(v%uint64(h.n)) }

// others: all replicas but one.
func (h *held) others(i int) []int {
	var l []int
	for j := 1; j <= h.n; j++ {
		if j != i {
			l = append(l, j)
		}
	}
	return l
}

// committed fails unless that is Committed of a view.
func (h *held) committed(v uint64, want int) *held {
	h.t.Helper()
	if got := decide.Committed(h.l, h.n, v); got != want {
		h.t.Errorf("P16.1: Committed(%d, %d) = %d and not %d", h.n, v, got, want)
	}
	return h
}

// decided fails unless that is decided, by that view.
func (h *held) decided(v uint64, want string) *held {
	h.t.Helper()
	if got := row(decide.Decided(h.l, h.n)); got != want {
		h.t.Errorf("P16.2: Decided(%d) = %q and not %q", h.n, got, want)
	}
	if got := decide.View(h.l, h.n); got != v {
		h.t.Errorf("P16.2: View(%d) = %d and not %d", h.n, got, v)
	}
	return h
}

// The chapter's example.
func TestExample(t *testing.T) {
	h := fresh(t, 3).prepares(0, 1).committed(0, 0).decided(0, "")
	h.counts(2, commit(0, 1)).committed(0, 1).decided(0, "1@1")
}

// P16.1, P16.2: of no message nothing is decided.
func TestNoMessage(t *testing.T) {
	for _, n := range sizes {
		h := fresh(t, n).decided(0, "")
		for _, v := range []uint64{0, 1, 2, uint64(n), 1<<30 - 1, 1 << 30, math.MaxUint64} {
			h.committed(v, 0)
		}
	}
}

// P16.1: nothing is committed in a view that did not begin, though all changed to it.
func TestViewsThatDidNotBegin(t *testing.T) {
	for _, n := range sizes {
		h := fresh(t, n).prepares(0, 1)
		for _, i := range h.others(1) {
			h.commits(i, 0, 1)
		}
		for i := 1; i <= n; i++ {
			h.counts(i, change(2))
		}
		for _, v := range []uint64{1, 2, 3, uint64(n), 1<<30 - 1, 1 << 30, 1 << 32, 1 << 63, math.MaxUint64} {
			h.committed(v, 0)
		}
		h.committed(0, 1).decided(0, "1@1")
	}
}

// story: n replicas; views 0, 1 and 3 began, in all of which something is committed; what is is decided by view 3.
func story(t *testing.T, n int) *held {
	h := fresh(t, n).prepares(0, 1, 2, 3)
	half := h.others(1)[:n/2]
	for _, i := range half {
		h.commits(i, 0, 1)
	}
	h.begins(1, append(half, n)...)
	h.prepares(1, 4).enters(1, h.others(2)...)
	for _, i := range h.others(2) {
		h.commits(i, 1, 1)
	}
	h.begins(3, h.others(2)[n/2-1:]...)
	h.prepares(3, 5, 6).enters(3, h.others(h.primary(3))...)
	for k, i := range h.others(h.primary(3)) {
		h.commits(i, 3, k%3)
	}
	return h
}

// P16.1, P16.2: the story, by hand.
func TestStory(t *testing.T) {
	h := story(t, 3) // the primary of 3 is 1: 2 entered, and 3 voted one more
	h.committed(0, 1).committed(1, 2).committed(3, 3).decided(3, "1@1 1@4 1@5")
	h = story(t, 5) // 4, the primary, voted 4, and 1, 2, 3, 5 voted 2, 3, 4, 2
	h.committed(0, 1).committed(1, 2).committed(3, 3).decided(3, "1@1 1@4 1@5")
	h = story(t, 11) // 4, the primary, voted 4, and of the others three 4, three 3, and four 2
	h.committed(0, 1).committed(1, 2).committed(3, 3).decided(3, "1@1 1@4 1@5")
}

// P16.1, P16.2: an n that log.New does not take, and no logs.
func TestNothingThere(t *testing.T) {
	views := []uint64{0, 1, 2, 3, 4, 1 << 30, math.MaxUint64}
	none := func(name string, l *log.Logs, n int) {
		for _, v := range views {
			if got := decide.Committed(l, n, v); got != 0 {
				t.Errorf("P16.1: %s: Committed(%d, %d) = %d", name, n, v, got)
			}
		}
		if got := decide.Decided(l, n); len(got) != 0 {
			t.Errorf("P16.2: %s: Decided(%d) = %s", name, n, row(got))
		}
		if got := decide.View(l, n); got != 0 {
			t.Errorf("P16.2: %s: View(%d) = %d", name, n, got)
		}
	}
	for _, size := range sizes {
		l := story(t, size).l
		for _, n := range badSizes {
			none("bad n", l, n)
			none("no logs, bad n", nil, n)
			none("logs of no New, bad n", &log.Logs{}, n)
		}
		none("no logs", nil, size)
		none("logs of no New", &log.Logs{}, size)
	}
}

// R1: with an n that log.New takes, but of which the logs are not, no call ends in a panic; replicas that there are not voted nothing.
func TestOtherSizes(t *testing.T) {
	for _, size := range sizes {
		l := story(t, size).l
		for _, n := range sizes {
			agrees(t, fmt.Sprintf("logs of %d", size), l, n)
		}
	}
}

// votes: from 0 to 3 of each of some replicas; all that there may be, or, if they are too many, some of them.
func votes(replicas int, yield func(votes []int)) {
	all := 1 << (2 * replicas)
	for at := 0; at < all; at += all/300 | 1 { // odd, so that the first ones' votes differ, too
		l := make([]int, replicas)
		for i := range l {
			l[i] = at >> (2 * i) & 3
		}
		yield(l)
	}
}

// wanted: the greatest that f + 1 of all voted, one of whom voted all.
func wanted(n, all int, others []int) int {
	for j := all; j > 0; j-- {
		many := 1
		for _, x := range others {
			if x >= j {
				many++
			}
		}
		if many > n/2 {
			return j
		}
	}
	return 0
}

// P16.1: in view 0, which all entered, however many each one voted.
func TestVotes(t *testing.T) {
	for _, n := range sizes {
		votes(n-1, func(l []int) {
			h := fresh(t, n).prepares(0, 1, 2, 3)
			for k, i := range h.others(1) {
				h.commits(i, 0, l[k])
			}
			want := wanted(n, 3, l)
			h.committed(0, want).decided(0, []string{"", "1@1", "1@1 1@2", "1@1 1@2 1@3"}[want])
		})
	}
}

// P16.1: in a view that begins with an S of one: who votes nothing there did not enter it.
func TestVotesBehindS(t *testing.T) {
	for _, n := range sizes {
		votes(n-1, func(l []int) {
			h := fresh(t, n).prepares(0, 1, 9).commits(3, 0, 1)
			h.begins(1, h.others(1)[:n/2+1]...).prepares(1, 2, 3)
			var voted []int
			for k, i := range h.others(2) {
				if voted = append(voted, 0); l[k] > 0 {
					h.enters(1, i).commits(i, 1, l[k]-1)
					voted[k] = l[k]
				}
			}
			want := wanted(n, 3, voted)
			h.committed(1, want)
			if want > 1 || n > 3 && want > 0 {
				h.decided(1, []string{"", "1@1", "1@1 1@2", "1@1 1@2 1@3"}[want])
			}
		})
	}
}

// P16.1: nobody, f, f + 1 and all voted all, alike.
func TestAlike(t *testing.T) {
	for _, n := range sizes {
		f := n / 2
		for many := range n {
			h := fresh(t, n).committed(0, 0).prepares(0, 1, 2, 3, 4, 5)
			replicas := h.others(1)[:many]
			if many%2 == 1 {
				replicas = h.others(1)[n-1-many:] // the last ones
			}
			for k, i := range replicas {
				h.committed(0, 5*min(1, (k+1)/(f+1)))
				h.commits(i, 0, 5)
			}
			if want := 5 * min(1, (many+1)/(f+1)); want > 0 { // the primary voted, too
				h.committed(0, want).decided(0, "1@1 1@2 1@3 1@4 1@5")
			} else {
				h.committed(0, 0).decided(0, "")
			}
		}
	}
}

// P16.1: all unlike: it is what the one in the middle voted, whoever that is.
func TestUnlike(t *testing.T) {
	for _, n := range sizes {
		for turn := range n - 1 {
			h := fresh(t, n)
			for time := uint64(1); time <= uint64(n); time++ {
				h.prepares(0, time)
			}
			for k, i := range h.others(1) {
				h.commits(i, 0, (k*(n-2)+turn)%(n-1)) // from 0 to n - 2
			}
			h.committed(0, n/2)
		}
	}
}

// P16.1, P16.2: a view that its primary alone entered has nothing committed; who enters it votes S.
func TestPrimaryAlone(t *testing.T) {
	for _, n := range sizes {
		h := fresh(t, n).prepares(0, 1, 2).commits(2, 0, 2)
		h.begins(1, h.others(n)[:n/2+1]...).prepares(1, 3).committed(1, 0)
		for k, i := range h.others(2) {
			h.committed(1, 2*min(1, (k+1)/(n/2+1)))
			h.enters(1, i)
		}
		h.committed(1, 2).commits(1, 1, 1)
		if n > 3 {
			h.committed(0, 0).committed(1, 2).decided(1, "1@1 1@2")
		} else {
			h.committed(0, 2).committed(1, 3).decided(1, "1@1 1@2 1@3")
		}
	}
}

// P16.1, P16.2: an S of nothing: nothing is committed, however many enter.
func TestSOfNothing(t *testing.T) {
	for _, n := range sizes {
		h := fresh(t, n)
		h.prepares(0, 1).begins(1, h.others(1)[:n/2+1]...).enters(1, h.others(2)...)
		h.committed(0, 0).committed(1, 0).decided(0, "")
		h.prepares(1, 2).committed(1, 0).decided(0, "")
		for k, i := range h.others(2) {
			h.commits(i, 1, 1).committed(1, min(1, (k+2)/(n/2+1)))
		}
		h.decided(1, "1@2")
	}
}

// P16.2: the greatest is that of view 0, though a later one began, and some entered it.
func TestDecidedByViewZero(t *testing.T) {
	h := fresh(t, 5).prepares(0, 1, 2, 3).commits(4, 0, 2).commits(5, 0, 3)
	h.committed(0, 2).decided(0, "1@1 1@2")
	h.begins(1, 2, 3, 5).prepares(1, 7).enters(1, 3).commits(3, 1, 1)
	h.committed(1, 0).decided(0, "1@1 1@2")
	h.enters(1, 5).committed(1, 3).decided(1, "1@1 1@2 1@3") // S is all that 5 voted
	h.commits(5, 1, 1).committed(1, 4).committed(0, 2).decided(1, "1@1 1@2 1@3 1@7")
}

// P16.2: of several views in which as much is committed, the least is told.
func TestDecidedByLeast(t *testing.T) {
	h := fresh(t, 3).prepares(0, 1, 2).commits(2, 0, 2).decided(0, "1@1 1@2")
	for v := uint64(1); v <= 7; v++ {
		i := h.primary(v)
		next := 1 + i%3
		h.begins(v, min(i, next), max(i, next)).decided(0, "1@1 1@2").enters(v, next).committed(v, 2).decided(0, "1@1 1@2")
	}
	h.prepares(7, 3).commits(3, 7, 1).committed(7, 3).decided(7, "1@1 1@2 1@3")
	h.begins(8, 1, 3).enters(8, 1).committed(8, 3).decided(7, "1@1 1@2 1@3") // the least of 7 and 8
	h.prepares(8, 4).decided(7, "1@1 1@2 1@3").commits(1, 8, 1).decided(8, "1@1 1@2 1@3 1@4")
}

// P16.2: a view may begin behind one that is above it; views are asked by what is committed, not by when they began.
func TestDecidedByCrossed(t *testing.T) {
	h := fresh(t, 5).prepares(0, 1)
	for _, i := range []int{3, 4, 5} {
		h.counts(i, change(1))
	}
	h.begins(2, 3, 4, 5).prepares(2, 5).enters(2, 4, 5).commits(4, 2, 1).commits(5, 2, 1)
	h.decided(2, "1@5")
	q := []api.Pair{{Replica: 3, Number: 1}, {Replica: 4, Number: 1}, {Replica: 5, Number: 1}}
	h.counts(2, newView(1, q...)).prepares(1, 6, 7).enters(1, 1).commits(1, 1, 2)
	h.committed(1, 0).decided(2, "1@5")
}

// P16.2: of views with more and less, the greatest one counts, in the middle too.
func TestDecidedInTheMiddle(t *testing.T) {
	h := fresh(t, 5).prepares(0, 1).commits(2, 0, 1).commits(3, 0, 1).decided(0, "1@1")
	h.begins(1, 2, 3, 4).prepares(1, 2, 3).enters(1, 3, 4).commits(3, 1, 2).commits(4, 1, 2).decided(1, "1@1 1@2 1@3")
	h.begins(2, 3, 4, 5).prepares(2, 4, 5).enters(2, 5).commits(5, 2, 2)
	h.committed(0, 1).committed(1, 3).committed(2, 0).decided(1, "1@1 1@2 1@3")
	h.enters(2, 4).committed(2, 3).decided(1, "1@1 1@2 1@3")
	h.commits(4, 2, 1).committed(2, 4).decided(2, "1@1 1@2 1@3 1@4")
}

// P16.1, P16.2: requests are told whole, those of many clients too.
func TestWholeRequests(t *testing.T) {
	h := fresh(t, 3)
	var want []api.Request
	for client := 1; client <= api.MaxClients; client++ {
		r := asked(client, uint64(9-client))
		want = append(want, r)
		h.counts(1, prepare(0, r)).commits(3, 0, 1)
		if got := decide.Decided(h.l, 3); !slices.Equal(got, want) {
			t.Errorf("P16.2: Decided = %+v and not %+v", got, want)
		}
	}
}

// all that logs tell.
func all(l *log.Logs, n int) string {
	s := fmt.Sprint(l.Views())
	for _, v := range append(l.Views(), 1, 2, 3, 4, 5) {
		x, began := l.Log(v)
		s += fmt.Sprintf("; %d: %+v, %v", v, x, began)
		for i := 1; i <= n; i++ {
			voted, entered := l.Voted(i, v)
			s += fmt.Sprintf(" %d %v", voted, entered)
		}
	}
	for i := 1; i <= n; i++ {
		v, number := l.Change(i)
		s += fmt.Sprintf("; %d %d %d", l.Greatest(i), v, number)
	}
	return s
}

// P16.2, R3: what is told is memory of its own, the room behind it too; what is told again is the same, and nothing of the logs is turned.
func TestOwnMemory(t *testing.T) {
	for _, n := range sizes {
		h := story(t, n)
		was := all(h.l, n)
		one, two := decide.Decided(h.l, n), decide.Decided(h.l, n)
		want := slices.Clone(two)
		clear(one)
		_ = append(one[:1], asked(8, 8))
		_ = append(one, asked(7, 7))
		clear(one[:cap(one)])
		if !slices.Equal(two, want) || !slices.Equal(decide.Decided(h.l, n), want) {
			t.Errorf("R3: Decided(%d) = %s, and then %s and not %s", n, row(two), row(decide.Decided(h.l, n)), row(want))
		}
		if rest := two[len(two):cap(two)]; len(rest) > 0 {
			t.Errorf("R3: behind what is decided stands %s", row(rest))
		}
		for v := range uint64(6) {
			decide.Committed(h.l, n, v)
			decide.Committed(h.l, -n, v)
		}
		decide.View(h.l, n)
		if is := all(h.l, n); is != was {
			t.Errorf("R3: the logs were %s and are %s", was, is)
		}
		h.prepares(3, 8)
	}
}

// R5: logs that were asked ever so often go on as those that were not.
func TestAskedOften(t *testing.T) {
	for seed := range int64(20) {
		w := anyWorld(t, seed, sizes[seed%5], &met{})
		w.goesOn(60, 1)
		quiet, often := w.nothing(), w.nothing()
		for _, m := range w.order {
			a, e := quiet.l.Take(m)
			b, g := often.l.Take(m)
			if a != b || e != g {
				t.Fatalf("R5: Take of %s = %v, %d, and %v, %d", told(m), a, e, b, g)
			}
			clear(decide.Decided(often.l, w.n))
			decide.View(often.l, w.n)
			decide.Committed(often.l, w.n, 1)
		}
		if is, was := all(often.l, w.n), all(quiet.l, w.n); is != was {
			t.Errorf("R5: the logs are %s and not %s", is, was)
		}
		agrees(t, "asked at last", quiet.l, w.n)
	}
}

// P16.1, P16.2, P16.3: whatever replicas say, which hear of each other in part: what is told is what the chapter's words say, and what is decided at any two knowledges is one the beginning of the other.
func TestAnyMessages(t *testing.T) {
	c := &met{}
	for seed := range int64(200) {
		w := anyWorld(t, seed, []int{3, 3, 3, 5, 5, 7, 9, 11}[seed%8], c)
		w.goesOn(120, w.r.Intn(w.n+1)*w.r.Intn(2))
	}
	if c.bare < 30 || c.all < 100 || c.part < 30 || c.off < 100 {
		t.Errorf("views began only so: %+v", *c)
	}
	if c.grown < 1000 || c.late < 500 || c.alike < 50 || c.back < 100 {
		t.Errorf("only so was it decided: %+v", *c)
	}
	if c.apart < 50000 || c.unlike < 10000 {
		t.Errorf("only so were knowledges unlike: %+v", *c)
	}
}

// P16.3: at any parts of what was said, of however few streams.
func TestAnyParts(t *testing.T) {
	parts := &met{}
	for seed := range int64(100) {
		w := anyWorld(t, 1000+seed, []int{3, 3, 3, 5, 5, 7, 9, 11}[seed%8], &met{})
		w.goesOn(80, w.r.Intn(w.n+1)*w.r.Intn(2))
		w.each, w.met = nil, parts
		for range 30 {
			w.each = append(w.each, w.part())
		}
		w.agree()
	}
	if parts.unlike < 1000 {
		t.Errorf("only so many were unlike: %+v", *parts)
	}
}
