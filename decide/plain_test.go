package decide_test

import (
	"cmp"
	"fmt"
	"math"
	"math/rand"
	"slices"
	"strings"
	"testing"

	"ratchet/api"
	"ratchet/decide"
	"ratchet/log"
	"ratchet/message"
)

// mayBe: does log.New take so many replicas?
func mayBe(n int) bool { return slices.Contains([]int{3, 5, 7, 9, 11}, n) }

// committed, by the chapter's words: from the whole log down, the first j that f + 1 replicas voted.
func committed(l *log.Logs, n int, v uint64) int {
	row, began := l.Log(v)
	if !began || !mayBe(n) {
		return 0
	}
	for j := len(row); j > 0; j-- {
		many := 0
		for r := 1; r <= n; r++ {
			if voted, entered := l.Voted(r, v); entered && voted >= j {
				many++
			}
		}
		if many >= (n-1)/2+1 {
			return j
		}
	}
	return 0
}

// decided, by the chapter's words: first how many are, then by which view, then which.
func decided(l *log.Logs, n int) ([]api.Request, uint64) {
	most := 0
	for _, v := range l.Views() {
		most = max(most, committed(l, n, v))
	}
	by := slices.MinFunc(l.Views(), func(a, b uint64) int {
		return cmp.Or(-cmp.Compare(committed(l, n, a), committed(l, n, b)), cmp.Compare(a, b))
	})
	row, _ := l.Log(by)
	return row[:most], by
}

// begins: is a list the beginning of another one?
func begins(whole, l []api.Request) bool {
	return len(l) <= len(whole) && slices.Equal(whole[:len(l)], l)
}

// row: the clients and times of requests.
func row(l []api.Request) string {
	var s []string
	for _, r := range l {
		s = append(s, fmt.Sprintf("%d@%d", r.Client, r.Time))
	}
	return strings.Join(s, " ")
}

// told: a message, in short.
func told(m api.Message) string {
	kind := []string{"none", "KPrepare", "KCommit", "KChange", "KNewView", "KEnter", "KCheck"}[min(6, m.Body.Kind)]
	return fmt.Sprintf("%d/%d %v: %s of %d, K %d, Q %v, %s", m.Origin, m.Number, m.Deps, kind, m.Body.View, m.Body.K, m.Body.Q, row([]api.Request{m.Body.Request}))
}

// agrees fails unless all three calls tell what the chapter's words say, of views that are near, too.
func agrees(t *testing.T, name string, l *log.Logs, n int) {
	t.Helper()
	near := slices.Concat(l.Views(), []uint64{0, 1, 2, 3, 4, 5, 6, 7, 1<<30 - 1, 1 << 30, 1 << 32, 1<<32 + 1, math.MaxUint64})
	for _, v := range near {
		if got, want := decide.Committed(l, n, v), committed(l, n, v); got != want {
			t.Errorf("P16.1: %s: Committed(%d, %d) = %d and not %d", name, n, v, got, want)
		}
	}
	want, by := decided(l, n)
	if got := decide.Decided(l, n); !slices.Equal(got, want) {
		t.Errorf("P16.2: %s: Decided(%d) = %s and not %s", name, n, row(got), row(want))
	}
	if got := decide.View(l, n); got != by {
		t.Errorf("P16.2: %s: View(%d) = %d and not %d", name, n, got, by)
	}
}

// knowledge: logs, how much of each stream they took, and what was decided then.
type knowledge struct {
	l     *log.Logs
	known api.Vector
	row   []api.Request
}

// has: is all known there that is known in another one?
func (k *knowledge) has(other *knowledge) bool {
	for i, x := range other.known {
		if x > k.known[i] {
			return false
		}
	}
	return true
}

// world of n replicas, each with what it knows, and one who knows all; which messages count, and the Changes of these.
type world struct {
	t       *testing.T
	r       *rand.Rand
	n       int
	streams [][]api.Message
	counts  map[api.Pair]bool
	changes map[uint64][]api.Pair
	each    []*knowledge
	all     *knowledge
	order   []api.Message // all that was said, as it came
	side    []int         // of each replica, which of two sides it is on: no word goes from one to the other
	target  uint64
	met     *met
}

// met is how often what matters came about.
type met struct {
	bare, all, part, off int // views with an S of nothing, all, a part of u's log; by a u above 0
	grown, late          int // messages by which more was decided; by a view above 0
	apart, unlike        int // pairs of knowledges of which neither has all of the other; in which not the same is decided, and in none nothing
	alike, back          int // knowledges in which several views have as many committed; in which a later view than that one began
}

// anyWorld: nothing was said.
func anyWorld(t *testing.T, seed int64, n int, c *met) *world {
	w := &world{t: t, r: rand.New(rand.NewSource(seed)), n: n, streams: make([][]api.Message, n), counts: map[api.Pair]bool{}, changes: map[uint64][]api.Pair{}, side: make([]int, n), met: c}
	for range n {
		w.each = append(w.each, w.nothing())
	}
	w.all = w.nothing()
	return w
}

// nothing is known.
func (w *world) nothing() *knowledge {
	w.t.Helper()
	l, e := log.New(w.n)
	if e != api.OK {
		w.t.Fatalf("log.New(%d) = %d", w.n, e)
	}
	return &knowledge{l: l}
}

// learn: a knowledge takes a stream up to a number, and ahead of each message what it names.
func (w *world) learn(k *knowledge, replica int, number uint64) {
	w.t.Helper()
	for k.known[replica-1] < number {
		m := w.streams[replica-1][k.known[replica-1]]
		for i, d := range m.Deps {
			if i != replica-1 {
				w.learn(k, i+1, d)
			}
		}
		w.take(k, m)
	}
}

// take fails unless a message counts as for the one who knows all, who takes it first, and what is decided behind it begins with what was decided ahead of it.
func (w *world) take(k *knowledge, m api.Message) {
	w.t.Helper()
	was := k.row
	counts, e := k.l.Take(m)
	at := api.Pair{Replica: m.Origin, Number: m.Number}
	if k == w.all {
		w.counts[at] = counts
	}
	if e != api.OK || counts != w.counts[at] {
		w.t.Fatalf("Take of %s = %v, %d", told(m), counts, e)
	}
	k.known[m.Origin-1]++
	k.row = decide.Decided(k.l, w.n)
	if !begins(k.row, was) {
		w.t.Fatalf("P16.3: %s was decided, and behind %s it is %s", row(was), told(m), row(k.row))
	}
	if len(k.row) > len(was) {
		w.met.grown++
		w.met.late += int(min(1, decide.View(k.l, w.n)))
	}
}

// some: one of these.
func some[T any](r *rand.Rand, l ...T) T { return l[r.Intn(len(l))] }

// primary: of a view.
func (w *world) primary(v uint64) int { return 1 + int(v%uint64(w.n)) }

// open: has a replica entered its greatest view? By what is known.
func open(l *log.Logs, i int) bool {
	_, entered := l.Voted(i, l.Greatest(i))
	return entered
}

// fewer: so many of some pairs, any ones, rising.
func (w *world) fewer(l []api.Pair, many int) []api.Pair {
	l = slices.Clone(l)
	for len(l) > many {
		at := w.r.Intn(len(l))
		l = slices.Delete(l, at, at+1)
	}
	slices.SortFunc(l, func(a, b api.Pair) int { return a.Replica - b.Replica })
	return l
}

// changed: who changed to a view, as far as a replica knows.
func (w *world) changed(k *knowledge, v uint64) []api.Pair {
	not := func(x api.Pair) bool { return x.Number > k.known[x.Replica-1] }
	return slices.DeleteFunc(slices.Clone(w.changes[v]), not)
}

// sensible: what an honest replica might say that knows so much.
func (w *world) sensible(i int, k *knowledge) api.Body {
	g := k.l.Greatest(i)
	for v := max(g, 1); v <= w.target; v++ {
		_, began := k.l.Log(v)
		if q := w.changed(k, v); !began && w.primary(v) == i && len(q) > w.n/2 && (v > g || !open(k.l, i)) {
			return newView(v, w.fewer(q, w.n/2+1)...)
		}
	}
	for _, v := range k.l.Views() {
		if (v > g || v == g && !open(k.l, i)) && w.primary(v) != i && w.r.Intn(3) > 0 {
			return enter(v)
		}
	}
	if g < w.target && w.r.Intn(3) > 0 {
		return change(g + 1 + uint64(w.r.Int63n(int64(w.target-g))))
	}
	if voted, _ := k.l.Voted(i, g); w.primary(g) != i {
		return commit(g, uint64(voted)+1)
	}
	return prepare(g, w.anyRequest(k, g))
}

// anyRequest: mostly one that does not stand in a view's log yet.
func (w *world) anyRequest(k *knowledge, v uint64) api.Request {
	client, time := 1+w.r.Intn(3), uint64(1)
	for k.l.Holds(v, client, time) && w.r.Intn(20) > 0 {
		time++
	}
	return asked(client, time)
}

// left: a view that a replica entered, and that is not its greatest any more; 0, if there is none.
func (w *world) left(i int, k *knowledge) uint64 {
	not := func(v uint64) bool {
		_, entered := k.l.Voted(i, v)
		return !entered || v >= k.l.Greatest(i)
	}
	return some(w.r, append(slices.DeleteFunc(k.l.Views(), not), 0)...)
}

// vote: in a view, for one more; now and then as if the replica were its primary, or as if it were not.
func (w *world) vote(i int, k *knowledge, v uint64) api.Body {
	if (w.primary(v) == i) != (w.r.Intn(6) == 0) {
		return prepare(v, w.anyRequest(k, v))
	}
	voted, _ := k.l.Voted(i, v)
	return commit(v, uint64(voted+some(w.r, 1, 1, 1, 2)))
}

// wild: any body.
func (w *world) wild(i int, k *knowledge) api.Body {
	g := k.l.Greatest(i)
	v := some(w.r, g, g, g+1, g+uint64(w.r.Intn(4)), some(w.r, k.l.Views()...), uint64(w.r.Intn(8)))
	switch w.r.Intn(9) {
	case 0:
		return w.vote(i, k, v)
	case 1, 2, 3:
		return w.vote(i, k, w.left(i, k))
	case 4:
		return change(v + 1)
	case 5:
		return enter(max(1, some(w.r, v, v+1, some(w.r, k.l.Views()...))))
	case 6, 7:
		return w.early(i, k)
	}
	return check(1 + uint64(w.r.Intn(9)))
}

// early: a view begins by too few Changes, or by some of which the replica does not know, or by what are none; mostly one of which it is the primary.
func (w *world) early(i int, k *knowledge) api.Body {
	v := k.l.Greatest(i)
	if open(k.l, i) {
		v++
	}
	for w.primary(v) != i && w.r.Intn(6*w.n) > 0 {
		v++
	}
	if w.target > 0 && w.r.Intn(4) == 0 {
		v = w.target - uint64(w.r.Int63n(int64(min(w.target, 3))))
	}
	q := some(w.r, w.changes[v], w.changed(k, v), w.anyOf(k))
	if len(q) == 0 {
		return change(v)
	}
	return newView(v, w.fewer(q, w.n/2+some(w.r, 0, 1, 1))...)
}

// anyOf: any messages that are known, one of each replica.
func (w *world) anyOf(k *knowledge) []api.Pair {
	var q []api.Pair
	for i := range w.n {
		if known := int64(k.known[i]); known > 0 {
			q = append(q, api.Pair{Replica: i + 1, Number: 1 + uint64(w.r.Int63n(known))})
		}
	}
	return q
}

// hear: a replica hears something of another one, if they are on one side: all, or a part.
func (w *world) hear(i, j int) {
	k := w.each[i-1]
	from, upTo := k.known[j-1], w.each[j-1].known[j-1]
	if w.side[i-1] == w.side[j-1] && from < upTo {
		w.learn(k, j, from+1+uint64(w.r.Int63n(int64(upTo-from))))
	}
}

// say: a replica says something; a liar anything, as if it had known less.
func (w *world) say(i int, lies bool) {
	w.t.Helper()
	k := w.each[i-1]
	m := api.Message{Origin: i, Number: k.known[i-1] + 1, Deps: k.known}
	if !lies {
		m.Body = w.sensible(i, k)
	} else {
		m.Body = some(w.r, w.wild(i, k), w.sensible(i, k))
		w.forget(i, &m.Deps)
	}
	w.streams[i-1] = append(w.streams[i-1], m)
	w.order = append(w.order, m)
	w.judge(m)
	w.take(k, m)
}

// forget: some of what was known of others.
func (w *world) forget(i int, known *api.Vector) {
	for j := range known {
		if j != i-1 && w.r.Intn(6) == 0 {
			known[j] -= uint64(w.r.Int63n(int64(min(known[j], 4) + 1)))
		}
	}
}

// judge: the one who knows all takes a message.
func (w *world) judge(m api.Message) {
	w.t.Helper()
	w.take(w.all, m)
	at := api.Pair{Replica: m.Origin, Number: m.Number}
	if v := m.Body.View; w.counts[at] && m.Body.Kind == api.KChange {
		w.changes[v] = append(w.changes[v], at)
	} else if w.counts[at] && m.Body.Kind == api.KNewView {
		w.began(v, m)
	}
}

// began: a view, by a message.
func (w *world) began(v uint64, m api.Message) {
	s, _ := w.all.l.Log(v)
	u, whole := uint64(0), []api.Request(nil)
	for _, x := range w.all.l.Views() {
		for _, q := range m.Body.Q {
			if _, entered := w.all.l.Voted(q.Replica, x); entered && x < v {
				u = x
				whole, _ = w.all.l.Log(x)
			}
		}
	}
	switch len(s) {
	case 0:
		w.met.bare++
	case len(whole):
		w.met.all++
	default:
		w.met.part++
	}
	w.met.off += int(min(1, u))
}

// agree fails unless what is decided at any two knowledges is one the beginning of the other, and of more that of less.
func (w *world) agree() {
	w.t.Helper()
	every := append(slices.Clone(w.each), w.all)
	for i, a := range every {
		for _, b := range every[:i] {
			w.agreeTwo(a, b)
		}
	}
}

func (w *world) agreeTwo(a, b *knowledge) {
	w.t.Helper()
	aHas, bHas := a.has(b), b.has(a)
	aBegins, bBegins := begins(b.row, a.row), begins(a.row, b.row)
	if !aBegins && !bBegins || aHas && !bBegins || bHas && !aBegins {
		w.t.Fatalf("P16.3: knowing %v %s is decided, and knowing %v %s", a.known, row(a.row), b.known, row(b.row))
	}
	if aHas || bHas {
		return
	}
	w.met.apart++
	if len(a.row) > 0 && len(b.row) > 0 && len(a.row) != len(b.row) {
		w.met.unlike++
	}
}

// held fails unless all that is told is what the chapter's words say, at some knowledge.
func (w *world) held() {
	w.t.Helper()
	k := some(w.r, append(slices.Clone(w.each), w.all)...)
	agrees(w.t, "any messages", k.l, w.n)
	views, by := k.l.Views(), decide.View(k.l, w.n)
	if by < views[len(views)-1] && len(k.row) > 0 {
		w.met.back++
	}
	for _, v := range views {
		if v != by && len(k.row) > 0 && decide.Committed(k.l, w.n, v) == len(k.row) {
			w.met.alike++
			return
		}
	}
}

// goesOn: the world, so many messages on; so many replicas lie, any ones.
func (w *world) goesOn(messages, liars int) {
	w.t.Helper()
	order := w.r.Perm(w.n)
	patience := w.n * some(w.r, 3, 6, 12)
	for range messages {
		if w.r.Intn(patience) == 0 {
			w.target += 1 + uint64(w.r.Intn(2))
		}
		if w.r.Intn(5*w.n) == 0 {
			for i := range w.side {
				w.side[i] = w.r.Intn(2) * w.r.Intn(2)
			}
		}
		i := 1 + w.r.Intn(w.n)
		for j := 1; j <= w.n; j++ {
			if j != i && w.r.Intn(3) > 0 {
				w.hear(i, j)
			}
		}
		w.say(i, order[i-1] < liars)
		w.agree()
		if w.r.Intn(10) == 0 {
			w.held()
		}
		if w.t.Failed() {
			w.t.FailNow()
		}
	}
}

// part: a knowledge of any part of what was said.
func (w *world) part() *knowledge {
	k := w.nothing()
	for range 1 + w.r.Intn(3) {
		i := 1 + w.r.Intn(w.n)
		w.learn(k, i, uint64(w.r.Intn(len(w.streams[i-1])+1)))
	}
	return k
}

// signatures: requests that were signed once, since that takes time.
var signatures = map[api.Request]api.Request{}

// asked: a request of a client, with its tag.
func asked(client int, time uint64) api.Request {
	r := api.Request{Client: client, Time: time, Op: api.Op{Kind: api.OpPut, Key: "a", Value: fmt.Sprint(client, time)}}
	if signatures[r] == (api.Request{}) {
		signatures[r] = message.Signed(r)
	}
	return signatures[r]
}
