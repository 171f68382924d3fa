package log_test

import (
	"fmt"
	"math"
	"math/rand"
	"slices"
	"strings"
	"testing"

	"ratchet/api"
	"ratchet/log"
	"ratchet/message"
)

// plain is what was taken of each of n replicas, in its order; all that is told is reckoned anew from it, by the chapter's words.
type plain struct {
	n       int
	streams [][]said
}

// said: a message that was taken; whether it counts, and if a view begins by it, the view's S and the view of which S is.
type said struct {
	m      api.Message
	counts bool
	s      []api.Request
	u      uint64
}

// entered: a view, and what was voted in it.
type entered struct {
	view  uint64
	voted int
}

// stand of a replica: the views that it entered, its greatest one, and the last Change that counts.
type stand struct {
	all      []entered
	greatest uint64
	change   api.Message
}

// voted: what was voted in a view, if it was entered.
func (s stand) voted(v uint64) (int, bool) {
	for _, x := range s.all {
		if x.view == v {
			return x.voted, true
		}
	}
	return 0, false
}

// open: was it entered, and is it the greatest?
func (s stand) open(v uint64) bool {
	_, ok := s.voted(v)
	return ok && v == s.greatest
}

// mayEnter: is a view above all that were entered, and not below the greatest?
func (s stand) mayEnter(v uint64) bool {
	above := true
	for _, x := range s.all {
		above = above && v > x.view
	}
	return above && v >= s.greatest && v < 1<<30
}

// empty: of n replicas, nothing was taken.
func empty(n int) *plain { return &plain{n: n, streams: make([][]said, n)} }

// copied: the same, which goes on by itself.
func (p *plain) copied() *plain {
	c := &plain{n: p.n}
	for _, s := range p.streams {
		c.streams = append(c.streams, slices.Clone(s))
	}
	return c
}

// primary: of a view.
func (p *plain) primary(v uint64) int { return 1 + int(v%uint64(p.n)) }

// taken: how many of each replica.
func (p *plain) taken() api.Vector {
	var v api.Vector
	for i, s := range p.streams {
		v[i] = uint64(len(s))
	}
	return v
}

// standAt: what the first messages of a replica make.
func (p *plain) standAt(r int, first uint64) stand {
	s := stand{all: []entered{{0, 0}}}
	for _, x := range p.streams[r-1][:first] {
		if !x.counts {
			continue
		}
		switch v := x.m.Body.View; x.m.Body.Kind {
		case api.KChange:
			s.greatest, s.change = v, x.m
		case api.KNewView, api.KEnter:
			_, start, _, _ := p.began(v)
			if x.m.Body.Kind == api.KNewView {
				start = x.s
			}
			s.greatest, s.all = v, append(s.all, entered{v, len(start)})
		case api.KPrepare, api.KCommit:
			s.all[len(s.all)-1].voted++
		}
	}
	return s
}

// stand: what all messages of a replica make.
func (p *plain) stand(r int) stand { return p.standAt(r, uint64(len(p.streams[r-1]))) }

// began: the number of the message by which a view began, its S, and the view of which S is.
func (p *plain) began(v uint64) (number uint64, s []api.Request, u uint64, ok bool) {
	if v == 0 {
		return 0, nil, 0, true
	}
	for _, x := range p.streams[p.primary(v)-1] {
		if x.counts && x.m.Body.Kind == api.KNewView && x.m.Body.View == v {
			return x.m.Number, x.s, x.u, true
		}
	}
	return 0, nil, 0, false
}

// log: of a view that began, by the primary's messages up to a number.
func (p *plain) log(v, upTo uint64) []api.Request {
	_, s, _, _ := p.began(v)
	l := slices.Clone(s)
	for _, x := range p.streams[p.primary(v)-1] {
		if x.counts && x.m.Body.Kind == api.KPrepare && x.m.Body.View == v && x.m.Number <= upTo {
			l = append(l, x.m.Body.Request)
		}
	}
	return l
}

// views: all that began, rising.
func (p *plain) views() []uint64 {
	all := []uint64{0}
	for _, s := range p.streams {
		for _, x := range s {
			if x.counts && x.m.Body.Kind == api.KNewView {
				all = append(all, x.m.Body.View)
			}
		}
	}
	slices.Sort(all)
	return all
}

// stands: does a request of that client and time, in a list?
func stands(l []api.Request, client int, time uint64) bool {
	return slices.ContainsFunc(l, func(r api.Request) bool { return r.Client == client && r.Time == time })
}

// names one: does a message name another one's message, in its Deps?
func names(m api.Message, r int, number uint64) bool { return number <= m.Deps[r-1] }

// begins: by Q, the S of a View, and the view of which S is; if Q is as it is to be. Each one's votes are those that it had when it changed.
func (p *plain) begins(m api.Message) (s []api.Request, u uint64, ok bool) {
	v := m.Body.View
	if len(m.Body.Q) != (p.n-1)/2+1 {
		return nil, 0, false
	}
	var votes []stand
	for _, q := range m.Body.Q {
		if !names(m, q.Replica, q.Number) {
			return nil, 0, false
		}
		x := p.streams[q.Replica-1][q.Number-1]
		if !x.counts || x.m.Body.Kind != api.KChange || x.m.Body.View != v {
			return nil, 0, false
		}
		votes = append(votes, p.standAt(q.Replica, q.Number))
	}
	for _, x := range votes {
		u = max(u, x.all[len(x.all)-1].view)
	}
	long := 0
	for _, x := range votes {
		voted, _ := x.voted(u)
		long = max(long, voted)
	}
	return p.log(u, math.MaxUint64)[:long], u, true
}

// counts: a message, by the table.
func (p *plain) counts(m api.Message) said {
	x := said{m: m}
	b, v := m.Body, m.Body.View
	own, primary := p.stand(m.Origin), p.primary(v)
	number, _, _, began := p.began(v)
	voted, _ := own.voted(v)
	switch b.Kind {
	case api.KChange:
		x.counts = v > own.greatest
	case api.KNewView:
		s, u, ok := p.begins(m)
		if x.counts = m.Origin == primary && own.mayEnter(v) && ok; x.counts {
			x.s, x.u = s, u
		}
	case api.KEnter:
		x.counts = began && names(m, primary, number) && own.mayEnter(v)
	case api.KPrepare:
		again := began && stands(p.log(v, math.MaxUint64), b.Request.Client, b.Request.Time)
		x.counts = m.Origin == primary && message.Authentic(b.Request) && !again && own.open(v)
	case api.KCommit:
		x.counts = m.Origin != primary && began && own.open(v) && b.K == uint64(voted)+1 && b.K <= uint64(len(p.log(v, m.Deps[primary-1])))
	case api.KCheck:
		x.counts = true
	}
	return x
}

// judge: the error of a message, or what it would be taken as.
func (p *plain) judge(m api.Message) (said, api.Errno) {
	if !message.May(m) || m.Origin > p.n {
		return said{}, api.ErrArg
	}
	for _, q := range m.Body.Q {
		if q.Replica > p.n {
			return said{}, api.ErrArg
		}
	}
	known := p.taken()
	for i, d := range m.Deps {
		if d > known[i] {
			return said{}, api.ErrOrder
		}
	}
	if m.Number != known[m.Origin-1]+1 {
		return said{}, api.ErrOrder
	}
	m.Body.Q = slices.Clone(m.Body.Q)
	return p.counts(m), api.OK
}

// take: a message.
func (p *plain) take(m api.Message) (bool, api.Errno) {
	x, e := p.judge(m)
	if e == api.OK {
		p.streams[m.Origin-1] = append(p.streams[m.Origin-1], x)
	}
	return x.counts, e
}

// row: the clients and times of requests.
func row(l []api.Request) string {
	var s []string
	for _, r := range l {
		s = append(s, fmt.Sprintf("%d@%d", r.Client, r.Time))
	}
	return strings.Join(s, " ")
}

// held is logs, and plain ones to which the same is done.
type held struct {
	t *testing.T
	l *log.Logs
	p *plain
}

// fresh: logs of n replicas; nothing was taken.
func fresh(t *testing.T, n int) *held {
	t.Helper()
	l, e := log.New(n)
	if e != api.OK || l == nil {
		t.Fatalf("P15.1: New(%d) = %v, %d", n, l, e)
	}
	h := &held{t, l, empty(n)}
	h.is("New")
	return h
}

// take hands a message in: fails unless the answer is what the chapter's words say. It answers that.
func (h *held) take(name string, m api.Message) (bool, api.Errno) {
	h.t.Helper()
	want, wrong := h.p.take(m)
	got, e := h.l.Take(m)
	if got != want || e != wrong {
		h.t.Errorf("P15.1: %s: Take of %s = %v, %d and not %v, %d", name, told(m), got, e, want, wrong)
	}
	return want, wrong
}

// told: a message, in short.
func told(m api.Message) string {
	kind := []string{"none", "KPrepare", "KCommit", "KChange", "KNewView", "KEnter", "KCheck"}[min(6, m.Body.Kind)]
	return fmt.Sprintf("%d/%d %v: %s of %d, K %d, Q %v, %s", m.Origin, m.Number, m.Deps, kind, m.Body.View, m.Body.K, m.Body.Q, row([]api.Request{m.Body.Request}))
}

// strangers: numbers of no replicas of n.
func strangers(n int) []int {
	return []int{0, -1, -2, -n, -n - 1, n + 1, n + 2, 12, 13, 2 * n, 1 << 8, 1<<8 + 1, 1<<16 + 1, 1<<32 + 1, 1<<62 + 1, math.MaxInt, math.MinInt, math.MinInt + 1}
}

// is fails unless the logs tell what the plain ones do.
func (h *held) is(name string) {
	h.t.Helper()
	views := h.p.views()
	if got := h.l.Views(); !slices.Equal(got, views) {
		h.t.Errorf("P15.2: %s: Views = %d and not %d", name, got, views)
	}
	near := slices.Concat(views, []uint64{0, 1, 2, 3, 4, 5, 6, 7, 1<<30 - 1, 1 << 30, 1 << 32, 1<<32 + 1, math.MaxUint64})
	slices.Sort(near)
	near = slices.Compact(near)
	for _, v := range near {
		h.logIs(name, v)
	}
	for r := 1; r <= h.p.n; r++ {
		h.standIs(name, r, near)
	}
	for _, r := range strangers(h.p.n) {
		h.saysNothing(name, r, views)
	}
}

// logIs fails unless the log of a view is the plain one, and what it holds too.
func (h *held) logIs(name string, v uint64) {
	h.t.Helper()
	var want []api.Request
	_, _, _, began := h.p.began(v)
	if began {
		want = h.p.log(v, math.MaxUint64)
	}
	if got, ok := h.l.Log(v); ok != began || !slices.Equal(got, want) {
		h.t.Errorf("P15.2: %s: Log(%d) = %s, %v and not %s, %v", name, v, row(got), ok, row(want), began)
	}
	for client := -1; client <= 9; client++ {
		for time := range uint64(6) {
			if got, ok := h.l.Holds(v, client, time), stands(want, client, time); got != ok {
				h.t.Errorf("P15.2: %s: Holds(%d, %d, %d) = %v and not %v", name, v, client, time, got, ok)
			}
		}
	}
	for _, r := range want {
		if !h.l.Holds(v, r.Client, r.Time) || h.l.Holds(v, r.Client+1<<32, r.Time) || h.l.Holds(v, r.Client, r.Time+1<<32) || h.l.Holds(v, -r.Client, r.Time) {
			h.t.Errorf("P15.2: %s: Holds(%d) is wrong near %d, %d", name, v, r.Client, r.Time)
		}
	}
}

// standIs fails unless what a replica voted, its greatest view and its last Change are the plain ones.
func (h *held) standIs(name string, r int, views []uint64) {
	h.t.Helper()
	s := h.p.stand(r)
	if got := h.l.Greatest(r); got != s.greatest {
		h.t.Errorf("P15.2: %s: Greatest(%d) = %d and not %d", name, r, got, s.greatest)
	}
	if v, number := h.l.Change(r); v != s.change.Body.View || number != s.change.Number {
		h.t.Errorf("P15.2: %s: Change(%d) = %d, %d and not %d, %d", name, r, v, number, s.change.Body.View, s.change.Number)
	}
	for _, v := range views {
		want, entered := s.voted(v)
		if got, ok := h.l.Voted(r, v); got != want || ok != entered {
			h.t.Errorf("P15.2: %s: Voted(%d, %d) = %d, %v and not %d, %v", name, r, v, got, ok, want, entered)
		}
	}
}

// saysNothing fails unless there is nothing of what is no replica.
func (h *held) saysNothing(name string, r int, views []uint64) {
	h.t.Helper()
	v, number := h.l.Change(r)
	if g := h.l.Greatest(r); g != 0 || v != 0 || number != 0 {
		h.t.Errorf("P15.2: %s: Greatest(%d) = %d, Change = %d, %d", name, r, g, v, number)
	}
	for _, v := range views {
		if got, ok := h.l.Voted(r, v); got != 0 || ok {
			h.t.Errorf("P15.2: %s: Voted(%d, %d) = %d, %v", name, r, v, got, ok)
		}
	}
}

// some: one of these.
func some[T any](r *rand.Rand, l ...T) T { return l[r.Intn(len(l))] }

// signatures: requests that were signed once, since that takes time.
var signatures = map[api.Request]api.Request{}

// asked: a request of a client, with its tag.
func asked(client int, time uint64) api.Request {
	r := api.Request{Client: client, Time: time, Op: api.Op{Kind: api.OpPut, Key: "a", Value: fmt.Sprint(client, time)}}
	if signatures[r] == (api.Request{}) {
		signatures[r] = message.Signed(r)
	}
	return signatures[r]
}

// spoilt: a request with a tag that is none.
func spoilt(r api.Request) api.Request {
	r.Tag[31] ^= 1
	return r
}

// spread of what is said at random: how likely it is, of a hundred, that a body is any one, that a sensible one is turned, and that what is known is left out.
type spread struct{ wild, turned, late int }

// anyView: near those that matter.
func (p *plain) anyView(r *rand.Rand, own stand) uint64 {
	views := p.views()
	v := some(r, own.greatest, own.greatest, own.greatest+1, own.greatest+uint64(r.Intn(4)), some(r, views...), some(r, own.all...).view, uint64(r.Intn(8)))
	if r.Intn(100) == 0 {
		v = some[uint64](r, 1<<30-1, 1<<30, 1<<32, math.MaxUint64)
	}
	return v
}

// changes: which replicas have a Change to a view that counts, with its number.
func (p *plain) changes(v uint64) []api.Pair {
	var l []api.Pair
	for i, s := range p.streams {
		for _, x := range s {
			if x.counts && x.m.Body.Kind == api.KChange && x.m.Body.View == v {
				l = append(l, api.Pair{Replica: i + 1, Number: x.m.Number})
			}
		}
	}
	return l
}

// fewer: so many of some pairs, any ones, in their order.
func fewer(r *rand.Rand, l []api.Pair, many int) []api.Pair {
	for len(l) > many {
		i := r.Intn(len(l))
		l = slices.Delete(l, i, i+1)
	}
	return l
}

// anyQ: any replicas, with any of their messages.
func (p *plain) anyQ(r *rand.Rand) []api.Pair {
	var q []api.Pair
	for i, s := range p.streams {
		q = append(q, api.Pair{Replica: i + 1, Number: 1 + uint64(r.Intn(len(s)+1))})
	}
	return fewer(r, q, 1+r.Intn(p.n))
}

// anyRequest: of few clients and times, mostly with its tag.
func anyRequest(r *rand.Rand) api.Request {
	q := asked(1+r.Intn(3), 1+uint64(r.Intn(5)))
	if r.Intn(10) == 0 {
		q = spoilt(q)
	}
	return q
}

// wild: any body.
func (p *plain) wild(r *rand.Rand, own stand) api.Body {
	v := p.anyView(r, own)
	voted, _ := own.voted(v)
	switch kind := some(r, api.KPrepare, api.KCommit, api.KChange, api.KNewView, api.KEnter, api.KCheck); kind {
	case api.KPrepare:
		return prepare(v, anyRequest(r))
	case api.KCommit:
		return commit(v, uint64(voted+some(r, 0, 1, 1, 2)))
	case api.KNewView:
		return newView(v, p.anyQ(r)...)
	case api.KCheck:
		return check(uint64(r.Intn(9)))
	default:
		return api.Body{Kind: kind, View: v}
	}
}

// sensible: something that an honest replica might say. Those who can begin a view mostly do, for any that f + 1 changed to.
func (p *plain) sensible(r *rand.Rand, i int, own stand, target uint64) api.Body {
	for v := own.greatest; v <= target; v++ {
		if q := p.changes(v); p.primary(v) == i && own.mayEnter(v) && len(q) > (p.n-1)/2 && r.Intn(3) > 0 {
			return newView(v, fewer(r, q, (p.n-1)/2+1)...)
		}
	}
	for _, v := range p.views() {
		if own.mayEnter(v) && p.primary(v) != i && r.Intn(3) > 0 {
			return enter(v)
		}
	}
	if own.greatest < target && r.Intn(3) > 0 {
		return change(own.greatest + 1 + uint64(r.Int63n(int64(target-own.greatest))))
	}
	v := own.greatest
	if p.primary(v) == i {
		return prepare(v, anyRequest(r))
	}
	voted, _ := own.voted(v)
	return commit(v, uint64(voted)+1)
}

// turned: a body with something else about it.
func turned(r *rand.Rand, n int, x api.Body) api.Body {
	x.Q = slices.Clone(x.Q)
	switch r.Intn(4) {
	case 0:
		x.View += some[uint64](r, 1, 2, math.MaxUint64, uint64(n))
	case 1:
		x.K += some[uint64](r, 1, math.MaxUint64)
	case 2:
		if len(x.Q) > 0 {
			i := r.Intn(len(x.Q))
			x.Q[i].Number += some[uint64](r, 1, math.MaxUint64)
			if r.Intn(2) == 0 {
				x.Q = slices.Delete(x.Q, i, i+1)
			}
		}
	case 3:
		if len(x.Q) > 0 {
			x.Q[len(x.Q)-1].Replica += r.Intn(3)
		}
		x.Request.Op.Amount++
	}
	return x
}

// anyDeps: what a maker knew: all, or in part.
func (p *plain) anyDeps(r *rand.Rand, i, late int) api.Vector {
	deps := p.taken()
	for j := range deps {
		if j != i-1 && r.Intn(100) < late {
			deps[j] -= uint64(r.Int63n(int64(min(deps[j], 6) + 1)))
		}
	}
	if r.Intn(100) == 0 {
		deps[r.Intn(11)] += some[uint64](r, 1, 1, 1<<16, math.MaxUint64)
	}
	return deps
}

// anyMessage: of any replica, mostly the next one.
func (p *plain) anyMessage(r *rand.Rand, at spread, target uint64) api.Message {
	i := 1 + r.Intn(p.n)
	own := p.stand(i)
	m := api.Message{Origin: i, Number: uint64(len(p.streams[i-1])) + 1, Deps: p.anyDeps(r, i, at.late)}
	if r.Intn(100) < at.wild {
		m.Body = p.wild(r, own)
	} else if m.Body = p.sensible(r, i, own, target); r.Intn(100) < at.turned {
		m.Body = turned(r, p.n, m.Body)
	}
	if r.Intn(60) == 0 {
		m.Number += some[uint64](r, 1, math.MaxUint64, math.MaxUint64-1)
		m.Deps[i-1] = m.Number - 1
	}
	if r.Intn(200) == 0 {
		m.Origin = some(r, 0, -1, p.n+1, 12)
	}
	r.Read(m.Tag[:])
	return m
}

// met is how often each Kind counted, and did not; each error; and how the views began.
type met struct {
	counts, not          map[uint8]int
	errors               map[api.Errno]int
	bare, all, part, off int // views with an S of nothing, all, a part of u's log; with a u above 0
	crossed              int // that began when a greater one had
}

// note: an answer to a message.
func (c *met) note(p *plain, m api.Message, counts bool, e api.Errno) {
	if c.errors[e]++; e != api.OK {
		return
	}
	if !counts {
		c.not[m.Body.Kind]++
		return
	}
	c.counts[m.Body.Kind]++
	if m.Body.Kind != api.KNewView {
		return
	}
	_, s, u, _ := p.began(m.Body.View)
	switch len(s) {
	case 0:
		c.bare++
	case len(p.log(u, math.MaxUint64)):
		c.all++
	default:
		c.part++
	}
	if u > 0 {
		c.off++
	}
	if m.Body.View < slices.Max(p.views()) {
		c.crossed++
	}
}

// anyRun: so many messages, handed in to logs of n, each answer held against the chapter's words. Behind each one the logs are.
func anyRun(t *testing.T, r *rand.Rand, n, length int, c *met, behind func(h *held, m api.Message)) *held {
	t.Helper()
	h := fresh(t, n)
	at := spread{some(r, 0, 5, 30), some(r, 0, 5, 20), some(r, 0, 20, 60)}
	target := uint64(0)
	for i := range length {
		if r.Intn(4*n) == 0 {
			target += 1 + uint64(r.Intn(2))
		}
		m := h.p.anyMessage(r, at, target)
		q := slices.Clone(m.Body.Q)
		counts, e := h.take("any", m)
		if !slices.Equal(m.Body.Q, q) {
			t.Errorf("R3: Take turned Q to %v", m.Body.Q)
		}
		clear(m.Body.Q) // what was handed in is not kept
		c.note(h.p, m, counts, e)
		behind(h, m)
		if t.Failed() {
			t.Fatalf("message %d: %s", i, told(m))
		}
	}
	return h
}

// noted: nothing as yet.
func noted() *met {
	return &met{counts: map[uint8]int{}, not: map[uint8]int{}, errors: map[api.Errno]int{}}
}

// P15.1, P15.2: any messages in any order, each answer held against the chapter's words.
func TestAnyMessages(t *testing.T) {
	c := noted()
	for seed := range int64(300) {
		r := rand.New(rand.NewSource(seed))
		h := anyRun(t, r, some(r, 3, 3, 3, 5, 5, 7, 9, 11), 200, c, func(h *held, m api.Message) {
			if r.Intn(10) == 0 {
				h.is("any")
			}
		})
		h.is("any")
		if t.Failed() {
			t.Fatalf("seed %d", seed)
		}
	}
	for kind := api.KPrepare; kind <= api.KCheck; kind++ {
		if c.counts[kind] < 100 || c.not[kind] < 100 && kind != api.KCheck {
			t.Errorf("the Kind %d counts only %d times, and does not %d times", kind, c.counts[kind], c.not[kind])
		}
	}
	if c.errors[api.ErrArg] < 100 || c.errors[api.ErrOrder] < 100 || c.errors[api.OK] < 1000 {
		t.Errorf("only these errors: %v", c.errors)
	}
	if c.bare < 30 || c.all < 30 || c.part < 30 || c.off < 30 || c.crossed < 30 {
		t.Errorf("views began only so: %+v", *c)
	}
}

// P15.4: a view begins once, by the log of one below it; all logs grow at their ends alone, by one request at most; nobody voted more than there is.
func TestLogsGrow(t *testing.T) {
	for seed := range int64(60) {
		r := rand.New(rand.NewSource(1000 + seed))
		before := map[uint64][]api.Request{0: nil}
		anyRun(t, r, some(r, 3, 3, 5, 7), 200, noted(), func(h *held, m api.Message) {
			now := map[uint64][]api.Request{}
			grown := 0
			for _, v := range h.l.Views() {
				now[v], _ = h.l.Log(v)
				was, again := before[v]
				if !again && !isBeginning(now[v], before, v) {
					t.Errorf("P15.4: %d began with %s, which no log below it has", v, row(now[v]))
				}
				if again && (len(now[v]) < len(was) || !slices.Equal(now[v][:len(was)], was)) {
					t.Errorf("P15.4: the log of %d was %s and is %s", v, row(was), row(now[v]))
				}
				if again {
					grown += len(now[v]) - len(was)
				}
				for i := 1; i <= h.p.n; i++ {
					if voted, _ := h.l.Voted(i, v); voted > len(now[v]) {
						t.Errorf("P15.4: %d voted %d in %d, of %d", i, voted, v, len(now[v]))
					}
				}
			}
			if grown += len(now) - len(before); grown > 1 {
				t.Errorf("P15.4: by one message %d requests, or views, came", grown)
			}
			for v := range before {
				if _, ok := now[v]; !ok {
					t.Errorf("P15.4: the view %d is none any more", v)
				}
			}
			before = now
		})
		if t.Failed() {
			t.Fatalf("seed %d", seed)
		}
	}
}

// isBeginning: is a log the beginning of one of a view below?
func isBeginning(l []api.Request, all map[uint64][]api.Request, below uint64) bool {
	for v, x := range all {
		if v < below && len(x) >= len(l) && slices.Equal(x[:len(l)], l) {
			return true
		}
	}
	return false
}

// answers: which messages count, by their Origin and Number.
type answers map[api.Pair]bool

// answered: what the logs of a run said.
func (p *plain) answered() (answers, [][]api.Message) {
	a, streams := answers{}, make([][]api.Message, p.n)
	for i, s := range p.streams {
		for _, x := range s {
			a[api.Pair{Replica: i + 1, Number: x.m.Number}] = x.counts
			streams[i] = append(streams[i], x.m)
		}
	}
	return a, streams
}

// shuffled takes streams in another order in which each one's time has come: by bursts of one replica, or by turns. It stops behind so many.
func shuffled(t *testing.T, r *rand.Rand, n int, streams [][]api.Message, a answers, most int) *held {
	t.Helper()
	h := fresh(t, n)
	h.p = nil // what is told is held against the other order's
	rest := slices.Clone(streams)
	burst := some(r, 1, 3, 50)
	for taken, failed := 0, 0; taken < most && failed < 1000; {
		i := r.Intn(n)
		for range burst {
			if len(rest[i]) == 0 || taken == most {
				failed++
				break
			}
			m := rest[i][0]
			counts, e := h.l.Take(m)
			if e == api.ErrOrder {
				failed++
				break
			}
			if want := a[api.Pair{Replica: m.Origin, Number: m.Number}]; counts != want || e != api.OK {
				t.Fatalf("P15.3: in another order Take of %s = %v, %d and not %v", told(m), counts, e, want)
			}
			rest[i], failed = rest[i][1:], 0
			taken++
		}
	}
	return h
}

// P15.3: in whatever order messages are taken the same ones count, and all logs and votes are the same; what is taken in part counts alike.
func TestAnyOrder(t *testing.T) {
	begun := 0
	for seed := range int64(60) {
		r := rand.New(rand.NewSource(2000 + seed))
		n := some(r, 3, 3, 5, 7, 11)
		first := anyRun(t, r, n, 150, noted(), func(*held, api.Message) {})
		begun += len(first.p.views()) - 1
		a, streams := first.p.answered()
		for range 6 {
			h := shuffled(t, r, n, streams, a, len(a))
			h.p = first.p
			h.is("in another order")
			shuffled(t, r, n, streams, a, r.Intn(len(a)+1))
		}
		if t.Failed() {
			t.Fatalf("seed %d", seed)
		}
	}
	if begun < 100 {
		t.Errorf("only %d views began", begun)
	}
}

// P15.3: the streams of others that a message does not name say nothing: handed in ahead of it, or not at all, it counts alike.
func TestUnnamedStreams(t *testing.T) {
	alone := 0
	for seed := range int64(40) {
		r := rand.New(rand.NewSource(3000 + seed))
		n := some(r, 3, 3, 5)
		first := anyRun(t, r, n, 60, noted(), func(*held, api.Message) {})
		a, streams := first.p.answered()
		for i, s := range streams {
			for number := 1; number <= len(s); number += 1 + r.Intn(6) {
				need := closure(streams, api.Pair{Replica: i + 1, Number: uint64(number)})
				all := 0
				for _, x := range need {
					all += len(x)
				}
				h := shuffled(t, r, n, need, a, all)
				if h.l.Greatest(i+1) != first.p.standAt(i+1, uint64(number)).greatest {
					t.Errorf("P15.3: seed %d: with nothing but what it names %d/%d makes %d the greatest", seed, i+1, number, h.l.Greatest(i+1))
				}
				alone += all
			}
		}
	}
	if alone < 1000 {
		t.Errorf("only %d were taken so", alone)
	}
}

// closure: of all streams what a message needs: all that it names, that its origin said ahead, that those name, and so on.
func closure(streams [][]api.Message, at api.Pair) [][]api.Message {
	long := map[int]uint64{}
	var need func(replica int, number uint64)
	need = func(replica int, number uint64) {
		for long[replica] < number {
			m := streams[replica-1][long[replica]]
			long[replica]++
			for i, d := range m.Deps {
				need(i+1, d)
			}
		}
	}
	need(at.Replica, at.Number)
	out := make([][]api.Message, len(streams))
	for i, number := range long {
		out[i-1] = streams[i-1][:number]
	}
	return out
}
