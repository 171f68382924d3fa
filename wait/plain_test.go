package wait_test

import (
	"cmp"
	"math/rand"
	"reflect"
	"slices"
	"testing"

	"ratchet/api"
	"ratchet/lore"
	"ratchet/wait"
)

// plain is a wait, as the chapter's words say it: what waits, in the order in which it came.
type plain struct{ list []api.Message }

// find: where one of an Origin and a Number waits.
func (p *plain) find(origin int, number uint64) int {
	return slices.IndexFunc(p.list, func(m api.Message) bool { return m.Origin == origin && m.Number == number })
}

// numbers: of an origin, rising.
func (p *plain) numbers(origin int) []uint64 {
	var l []uint64
	for _, m := range p.list {
		if m.Origin == origin {
			l = append(l, m.Number)
		}
	}
	slices.Sort(l)
	return l
}

// letGo: the one of an Origin and a Number.
func (p *plain) letGo(origin int, number uint64) {
	i := p.find(origin, number)
	p.list = slices.Delete(p.list, i, i+1)
}

// put: what the chapter's words say of a message.
func (p *plain) put(l *lore.Lore, m api.Message) api.Errno {
	if l == nil {
		return api.ErrNil
	}
	if e := l.Check(m); e != api.OK && e != api.ErrOrder {
		return e
	}
	if p.find(m.Origin, m.Number) >= 0 {
		return api.ErrAgain
	}
	if theirs := p.numbers(m.Origin); len(theirs) == 11 {
		if m.Number > theirs[10] {
			return api.ErrFull
		}
		p.letGo(m.Origin, theirs[10])
	}
	p.list = append(p.list, own(m))
	return api.OK
}

// next: which one is told, by the chapter's words; what may wait no more is let go ahead.
func (p *plain) next(l *lore.Lore) (api.Message, bool) {
	if l == nil {
		return api.Message{}, false
	}
	for _, m := range slices.Clone(p.list) {
		if e := l.Check(m); e != api.OK && e != api.ErrOrder {
			p.letGo(m.Origin, m.Number)
		}
	}
	for i := 1; i <= 11; i++ {
		for _, m := range p.list {
			if m.Origin == i && l.Check(m) == api.OK {
				p.letGo(m.Origin, m.Number)
				return m, true
			}
		}
	}
	return api.Message{}, false
}

// own: a message in memory of its own.
func own(m api.Message) api.Message {
	m.Body.Q = slices.Clone(m.Body.Q)
	return m
}

// alike: are two messages the same, nil and empty lists not told apart?
func alike(a, b api.Message) bool {
	same := slices.Equal(a.Body.Q, b.Body.Q)
	a.Body.Q, b.Body.Q = nil, nil
	return same && reflect.DeepEqual(a, b)
}

// held is a wait, and a plain one to which the same is done.
type held struct {
	t *testing.T
	w *wait.Wait
	p plain
}

// fresh: nothing waits.
func fresh(t *testing.T) *held {
	t.Helper()
	w := wait.New()
	if w == nil {
		t.Fatal("P13.1: New answers no wait")
	}
	h := &held{t: t, w: w}
	h.is("New")
	return h
}

// waiting: these were put, as a lore lets them.
func waiting(t *testing.T, l *lore.Lore, list ...api.Message) *held {
	t.Helper()
	h := fresh(t)
	for _, m := range list {
		h.put("ahead", l, m, api.OK)
	}
	return h
}

// put hands a message in: fails unless that is the answer, the plain wait's too, and just what is to wait does.
func (h *held) put(name string, l *lore.Lore, m api.Message, want api.Errno) {
	h.t.Helper()
	all := l.Since(api.Vector{}, l.Len())
	if e := h.p.put(l, m); e != want {
		h.t.Errorf("the test is wrong: %s: %d/%d is %d by the chapter's words, and not %d", name, m.Origin, m.Number, e, want)
	}
	if e := h.w.Put(l, m); e != want {
		h.t.Errorf("P13.1: %s: Put of %d/%d = %d and not %d", name, m.Origin, m.Number, e, want)
	}
	unturned(h.t, l, all)
	h.is(name)
}

// next asks for one: fails unless it is the one of that name, or none of no name.
func (h *held) next(name string, l *lore.Lore, want string) {
	h.t.Helper()
	if got := h.told(name, l); got != want {
		h.t.Errorf("P13.2: %s: Next = %q and not %q", name, got, want)
	}
}

// told: the name of what is next. Fails unless that is what the plain wait tells, whole as it was put, and just what is to wait does.
func (h *held) told(name string, l *lore.Lore) string {
	h.t.Helper()
	all := l.Since(api.Vector{}, l.Len())
	m, some := h.p.next(l)
	got, ok := h.w.Next(l)
	if ok != some || !alike(got, m) {
		h.t.Errorf("P13.2: %s: Next = %+v, %v and not %+v, %v", name, got, ok, m, some)
	}
	unturned(h.t, l, all)
	h.is(name)
	if !ok {
		return ""
	}
	return names([]api.Message{got})
}

// unturned fails unless a lore holds just these messages.
func unturned(t *testing.T, l *lore.Lore, all []api.Message) {
	t.Helper()
	if got := l.Since(api.Vector{}, l.Len()+1); l.Len() != len(all) || !slices.EqualFunc(got, all, alike) {
		t.Errorf("R3: the lore has %s and not %s", names(got), names(all))
	}
}

// is fails unless those wait that the plain wait has, and no others: as many, and each is known, by a lore to which none is. (That turns nothing.)
func (h *held) is(name string) {
	h.t.Helper()
	if n := h.w.Len(); n != len(h.p.list) {
		h.t.Errorf("P13.2: %s: Len = %d and not %d", name, n, len(h.p.list))
	}
	all, _ := lore.New(11)
	for _, m := range h.p.list {
		if e := h.w.Put(all, m); e != api.ErrAgain {
			h.t.Fatalf("P13.1: %s: %d/%d waits no more (%d)", name, m.Origin, m.Number, e)
		}
	}
}

// drain fails unless each that waits is told as it was put, as soon as a lore would take it; those that knew least first.
func (h *held) drain(name string) {
	h.t.Helper()
	knew := func(m api.Message) (all uint64) {
		for _, d := range m.Deps {
			all += d
		}
		return all
	}
	for len(h.p.list) > 0 && !h.t.Failed() {
		m := slices.MinFunc(h.p.list, func(a, b api.Message) int { return cmp.Compare(knew(a), knew(b)) })
		if h.told(name, knowing(h.t, 11, m.Deps[:]...)) == "" {
			h.t.Errorf("P13.2: %s: none is told where %d/%d is next", name, m.Origin, m.Number)
		}
	}
}

// some: one of these.
func some[T any](r *rand.Rand, l ...T) T { return l[r.Intn(len(l))] }

// anyBody: of any Kind, of few views and places.
func anyBody(r *rand.Rand, n int) api.Body {
	var q []api.Pair
	for i := 1; i <= n; i++ {
		if i == n && q == nil || r.Intn(2) == 0 {
			q = append(q, api.Pair{Replica: i, Number: 1 + uint64(r.Intn(9))})
		}
	}
	x := api.Body{View: 1 + uint64(r.Intn(3))}
	return some(r,
		api.Body{Kind: api.KPrepare, View: x.View, Request: api.Request{Client: 1 + r.Intn(8), Time: 1 + uint64(r.Intn(9)), Op: api.Op{Key: "a"}}},
		api.Body{Kind: api.KCommit, View: x.View - 1, K: x.View},
		api.Body{Kind: api.KChange, View: x.View},
		api.Body{Kind: api.KNewView, View: x.View, Q: q},
		api.Body{Kind: api.KEnter, View: x.View},
		api.Body{Kind: api.KCheck, K: 4 * x.View, Digest: [32]byte{byte(x.View)}})
}

// anyStreams: what n replicas said, in an order in which a lore takes it; who talks much says most.
func anyStreams(r *rand.Rand, n, length int) []api.Message {
	var l []api.Message
	var known api.Vector
	var knew [11]api.Vector // what each one's last message did
	talks := 1 + r.Intn(n)
	for range length {
		i := some(r, talks, 1+r.Intn(n))
		v := knew[i-1]
		for j := range v {
			v[j] += uint64(r.Int63n(int64(known[j] - v[j] + 1)))
		}
		v[i-1] = known[i-1]
		known[i-1]++
		knew[i-1] = v
		l = append(l, tagged(api.Message{Origin: i, Number: known[i-1], Deps: v, Body: anyBody(r, n)}))
	}
	return l
}

// turned: a message with something else about it, mostly by its own replica's counter.
func turned(r *rand.Rand, n int, m api.Message) api.Message {
	switch i := r.Intn(n); r.Intn(7) {
	case 0:
		m.Tag[r.Intn(32)] ^= 1 << r.Intn(8)
		return m
	case 1:
		m.Body = anyBody(r, 11)
	case 2:
		m.Deps[i] = uint64(r.Intn(3))
	case 3:
		m.Deps[i]++
	case 4:
		m.Number += uint64(1 + r.Intn(30))
	case 5:
		m.Origin = 1 + r.Intn(11)
	case 6:
		m.Body = api.Body{}
	}
	if m.Number > 0 {
		m.Deps[m.Origin-1] = m.Number - 1
	}
	return tagged(m)
}

// met is how often each answer was, of Put; and of Next how often one was told, and how many were let go unheard.
type met struct {
	put        map[api.Errno]int
	pushed     int
	told, none int
	letGo      int
}

// anyPut: any message, of what was said, mostly at about what is known, or another one.
func (h *held) anyPut(r *rand.Rand, l *lore.Lore, n int, said []api.Message, c *met) {
	m := some(r, said...)
	if r.Intn(8) > 0 {
		m = said[max(0, min(len(said)-1, l.Len()-5+r.Intn(30)))]
	}
	if r.Intn(4) == 0 {
		m = turned(r, n, m)
	}
	before := len(h.p.list)
	want := h.p.put(l, m)
	if e := h.w.Put(l, m); e != want {
		h.t.Errorf("P13.1: Put of %d/%d = %d and not %d", m.Origin, m.Number, e, want)
	}
	c.put[want]++
	if want == api.OK && len(h.p.list) == before {
		c.pushed++
	}
}

// anyNext: what is next; taken by the lore, mostly.
func (h *held) anyNext(r *rand.Rand, l *lore.Lore, c *met) {
	before := len(h.p.list)
	want, some := h.p.next(l)
	got, ok := h.w.Next(l)
	if ok != some || !alike(got, want) {
		h.t.Errorf("P13.2: Next = %+v, %v and not %+v, %v", got, ok, want, some)
	}
	if some && r.Intn(8) > 0 {
		l.Add(got)
	}
	if c.letGo += before - len(h.p.list); some {
		c.told, c.letGo = c.told+1, c.letGo-1
	} else {
		c.none++
	}
}

// P13.1, P13.2: any messages in any order, each answer held against the chapter's words.
func TestAnyMessages(t *testing.T) {
	c := &met{put: map[api.Errno]int{}}
	for seed := range int64(40) {
		r := rand.New(rand.NewSource(seed))
		n := 3 + 2*r.Intn(5)
		said := anyStreams(r, n, 60+r.Intn(60))
		h, l, other := fresh(t), knowing(t, n), knowing(t, n)
		for i := range 500 {
			at := some(r, l, l, l, l, other)
			if r.Intn(50) == 0 {
				at = nil
			}
			if r.Intn(3) > 0 {
				h.anyPut(r, at, n, said, c)
			} else {
				h.anyNext(r, at, c)
			}
			if i%25 == 0 {
				h.is("any")
			}
			if t.Failed() {
				t.Fatalf("seed %d, call %d", seed, i)
			}
		}
		h.is("any")
	}
	for _, e := range []api.Errno{api.OK, api.ErrArg, api.ErrNil, api.ErrFull, api.ErrTag, api.ErrAgain} {
		if c.put[e] < 100 {
			t.Errorf("only %d answers %d", c.put[e], e)
		}
	}
	if c.pushed < 100 || c.told < 500 || c.none < 500 || c.letGo < 100 {
		t.Errorf("only %+v", *c)
	}
}

// P13.1, P13.2: what lies in any order comes in that of the streams: a lore takes all that was said, if what had no room is put again.
func TestAllIsTaken(t *testing.T) {
	for seed := range int64(20) {
		r := rand.New(rand.NewSource(100 + seed))
		n := 3 + 2*r.Intn(5)
		said := anyStreams(r, n, 80)
		h, l := fresh(t), knowing(t, n)
		for round := 0; l.Len() < len(said) && round < len(said); round++ {
			for _, at := range r.Perm(len(said)) {
				h.p.put(l, said[at])
				h.w.Put(l, said[at])
			}
			for m, ok := h.w.Next(l); ok; m, ok = h.w.Next(l) {
				if want, _ := h.p.next(l); !alike(m, want) || l.Add(m) != api.OK {
					t.Fatalf("P13.2: seed %d: Next = %+v and not %+v", seed, m, want)
				}
			}
			h.p.next(l)
			h.is("any")
		}
		if l.Len() != len(said) {
			t.Fatalf("P13.2: seed %d: %d of %d were taken", seed, l.Len(), len(said))
		}
	}
}
