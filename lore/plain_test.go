package lore_test

import (
	"math/rand"
	"reflect"
	"slices"
	"testing"

	"ratchet/api"
	"ratchet/lore"
	"ratchet/message"
	"ratchet/tag"
)

// plain is a lore, as the chapter's words say it: what was taken, in order.
type plain struct {
	n     int
	taken []api.Message
}

// get: the message that was taken of an origin and a number.
func (p plain) get(origin int, number uint64) (api.Message, bool) {
	for _, m := range p.taken {
		if m.Origin == origin && m.Number == number {
			return m, true
		}
	}
	return api.Message{}, false
}

// known: how many of each origin.
func (p plain) known() api.Vector {
	var v api.Vector
	for _, m := range p.taken {
		v[m.Origin-1]++
	}
	return v
}

// since: those that v does not know, most at most.
func (p plain) since(v api.Vector, most int) []api.Message {
	var l []api.Message
	for _, m := range p.taken {
		if m.Number > v[m.Origin-1] && len(l) < most {
			l = append(l, m)
		}
	}
	return l
}

// stranger: does it name a replica above n?
func (p plain) stranger(m api.Message) bool {
	for _, q := range m.Body.Q {
		if q.Replica > p.n {
			return true
		}
	}
	for i := p.n + 1; i <= 11; i++ {
		if m.Deps[i-1] != 0 {
			return true
		}
	}
	return m.Origin > p.n
}

// check: what the chapter's words say of a message.
func (p plain) check(m api.Message) api.Errno {
	if !message.May(m) || p.stranger(m) {
		return api.ErrArg
	}
	if m.Tag != tag.Numbered(m.Origin, m.Number, message.Bytes(m)) {
		return api.ErrTag
	}
	known := p.known()
	if m.Number <= known[m.Origin-1] {
		return api.ErrAgain
	}
	next := m.Number == known[m.Origin-1]+1
	ahead, some := p.get(m.Origin, m.Number-1)
	above := false
	for i, d := range m.Deps {
		if next && some && d < ahead.Deps[i] {
			return api.ErrArg
		}
		above = above || d > known[i]
	}
	if !next || above {
		return api.ErrOrder
	}
	return api.OK
}

// alike: are two messages the same, nil and empty lists not told apart?
func alike(a, b api.Message) bool {
	same := slices.Equal(a.Body.Q, b.Body.Q)
	a.Body.Q, b.Body.Q = nil, nil
	return same && reflect.DeepEqual(a, b)
}

// is fails unless the lore tells all of that, by each of its calls.
func is(t *testing.T, l *lore.Lore, p plain) {
	t.Helper()
	known := p.known()
	if l.Len() != len(p.taken) || l.Known() != known {
		t.Errorf("P12.2: Len, Known = %d, %v and not %d, %v", l.Len(), l.Known(), len(p.taken), known)
	}
	for _, i := range []int{-1 << 63, -11, -1, 0, 1, 2, 3, 4, 5, 6, 7, 8, 9, 10, 11, 12, 13, 1<<8 + 1, 1<<32 + 1, 1<<63 - 1} {
		last := uint64(0)
		if i >= 1 && i <= 11 {
			last = known[i-1]
		}
		for _, number := range []uint64{0, 1, 2, last / 2, last - 1, last, last + 1, last + 2, 1<<16 + 1, 1<<32 + 1, 1 << 63, 1<<63 + 1, 1<<64 - 1} {
			want, some := p.get(i, number)
			if got, ok := l.Get(i, number); ok != some || !alike(got, want) {
				t.Errorf("P12.2: Get(%d, %d) = %+v, %v and not %+v, %v", i, number, got, ok, want, some)
			}
		}
	}
	since(t, l, p, api.Vector{}, len(p.taken))
	since(t, l, p, known, 1)
}

// since fails unless the lore tells those that v does not know.
func since(t *testing.T, l *lore.Lore, p plain, v api.Vector, most int) {
	t.Helper()
	want := p.since(v, most)
	if got := l.Since(v, most); !slices.EqualFunc(got, want, alike) {
		t.Errorf("P12.2: Since(%v, %d) = %s and not %s", v, most, names(got), names(want))
	}
}

// takes hands a message to the lore and to the plain one: fails unless both say the same, Check and Add, and tells what.
func (p *plain) takes(t *testing.T, l *lore.Lore, m api.Message) api.Errno {
	t.Helper()
	want := p.check(m)
	if e := l.Check(m); e != want {
		t.Errorf("P12.1: Check(%+v) = %d and not %d", m, e, want)
	}
	if e := l.Add(m); e != want {
		t.Errorf("P12.1: Add(%+v) = %d and not %d", m, e, want)
	}
	if want == api.OK {
		p.taken = append(p.taken, m)
	}
	return want
}

// some: one of these.
func some[T any](r *rand.Rand, l ...T) T { return l[r.Intn(len(l))] }

// anyBody: of any Kind, of few views and places.
func anyBody(r *rand.Rand, n int) api.Body {
	var q []api.Pair
	for i := 1; i <= n; i++ {
		if i == n && q == nil || r.Intn(2) == 0 {
			q = append(q, api.Pair{Replica: i, Number: 1 + uint64(r.Intn(9))})
		}
	}
	x := api.Body{View: 1 + uint64(r.Intn(3))}
	return some(r,
		api.Body{Kind: api.KPrepare, View: x.View, Request: api.Request{Client: 1 + r.Intn(8), Time: 1 + uint64(r.Intn(9)), Op: api.Op{Key: "a"}}},
		api.Body{Kind: api.KCommit, View: x.View - 1, K: x.View},
		api.Body{Kind: api.KChange, View: x.View},
		api.Body{Kind: api.KNewView, View: x.View, Q: q},
		api.Body{Kind: api.KEnter, View: x.View},
		api.Body{Kind: api.KCheck, K: 4 * x.View, Digest: [32]byte{byte(x.View)}})
}

// anyDeps: of a replica's next message, mostly: from what the one ahead knew up to what is known; now and then below, above, or of a replica above n.
func (p plain) anyDeps(r *rand.Rand, origin int) api.Vector {
	known := p.known()
	ahead, _ := p.get(origin, known[origin-1])
	v := ahead.Deps
	for i := range v {
		v[i] += uint64(r.Int63n(int64(known[i] - v[i] + 1)))
	}
	if r.Intn(8) == 0 {
		v[r.Intn(p.n)] = uint64(r.Intn(9))
	}
	if i := r.Intn(p.n); r.Intn(8) == 0 && v[i] > 0 {
		v[i]--
	}
	if i := r.Intn(p.n); r.Intn(8) == 0 {
		v[i] = known[i] + some[uint64](r, 1, 1, 2)
	}
	if p.n < 11 && r.Intn(30) == 0 {
		v[p.n+r.Intn(11-p.n)]++
	}
	return v
}

// anyMessage: one that would be taken, mostly.
func (p plain) anyMessage(r *rand.Rand) api.Message {
	m := api.Message{Origin: 1 + r.Intn(p.n), Body: anyBody(r, p.n)}
	m.Number = p.known()[m.Origin-1] + 1
	m.Deps = p.anyDeps(r, m.Origin)
	if m.Number > 1 && r.Intn(10) == 0 {
		m.Number -= some[uint64](r, 1, 1, m.Number-1)
	}
	if r.Intn(12) == 0 {
		m.Number += some[uint64](r, 1, 1, 2, 1<<15)
	}
	m.Deps[m.Origin-1] = m.Number - 1
	if r.Intn(40) == 0 {
		m.Origin += some(r, 1, -1, 11, -11)
	}
	if r.Intn(40) == 0 {
		m.Body = some(r, anyBody(r, 11), api.Body{})
	}
	m = tagged(m)
	if r.Intn(12) == 0 {
		m.Tag[r.Intn(32)] ^= 1 << r.Intn(8)
	}
	return m
}

// anyVector: of what somebody may know, near what is known.
func (p plain) anyVector(r *rand.Rand) api.Vector {
	v := p.known()
	for i := range v {
		v[i] = some(r, 0, 1, v[i]/2, v[i]-1, v[i], v[i], v[i]+1, 1<<16, 1<<32, 1<<64-1)
	}
	return v
}

// anyLore: a lore that was handed any messages, and what it took.
func anyLore(t *testing.T, r *rand.Rand, n, handed int) (*lore.Lore, plain, map[api.Errno]int) {
	t.Helper()
	l, p, met := empty(t, n), plain{n: n}, map[api.Errno]int{}
	for range handed {
		met[p.takes(t, l, p.anyMessage(r))]++
	}
	return l, p, met
}

// P12.1, P12.2: any messages, each held against the chapter's words.
func TestAnyMessages(t *testing.T) {
	met := map[api.Errno]int{}
	for seed := range int64(50) {
		r := rand.New(rand.NewSource(seed))
		n := 3 + 2*r.Intn(5)
		l, p := empty(t, n), plain{n: n}
		for range 60 {
			m := p.anyMessage(r)
			met[p.takes(t, l, m)]++
			since(t, l, p, p.anyVector(r), some(r, -1, 0, 1, 2, 8, 100))
			if r.Intn(10) == 0 {
				is(t, l, p)
			}
			if t.Failed() {
				t.Fatalf("seed %d: behind %+v", seed, m)
			}
		}
		is(t, l, p)
	}
	for _, e := range []api.Errno{api.OK, api.ErrArg, api.ErrTag, api.ErrOrder, api.ErrAgain} {
		if met[e] < 150 {
			t.Errorf("only %d answers %d", met[e], e)
		}
	}
}

// P12.3: what Since tells, whole or by few, a lore takes that took but messages of the first one, in whatever order.
func TestSinceIsTaken(t *testing.T) {
	for seed := range int64(60) {
		r := rand.New(rand.NewSource(100 + seed))
		from, p, _ := anyLore(t, r, 3+2*r.Intn(5), 80)
		to, q := empty(t, p.n), plain{n: p.n}
		for range r.Intn(3 * len(p.taken)) {
			if m := p.taken[r.Intn(len(p.taken))]; to.Check(m) == api.OK {
				q.takes(t, to, m)
			}
		}
		for most := some(r, 1, 2, 8, len(p.taken)); ; {
			l := from.Since(to.Known(), most)
			for _, m := range l {
				if e := q.takes(t, to, m); e != api.OK {
					t.Fatalf("P12.3: seed %d: Add(%+v) = %d", seed, m, e)
				}
			}
			if len(l) == 0 {
				break
			}
		}
		is(t, to, q)
		if to.Known() != from.Known() {
			t.Fatalf("P12.3: seed %d: Known = %v and not %v", seed, to.Known(), from.Known())
		}
	}
}

// P12.3: at any time what is known is closed: with a message all that its Deps name.
func TestClosed(t *testing.T) {
	for seed := range int64(30) {
		r := rand.New(rand.NewSource(200 + seed))
		p := plain{n: 3 + 2*r.Intn(5)}
		l := empty(t, p.n)
		for range 50 {
			p.takes(t, l, p.anyMessage(r))
			closed(t, l, p.n)
		}
	}
}

// closed fails unless all that is known names but what is known.
func closed(t *testing.T, l *lore.Lore, n int) {
	t.Helper()
	known := l.Known()
	for i := 1; i <= n; i++ {
		for number := uint64(1); number <= known[i-1]; number++ {
			m, ok := l.Get(i, number)
			for j, d := range m.Deps {
				if !ok || d > known[j] {
					t.Fatalf("P12.3: %d/%d, %v, names %d/%d, and known is %v", i, number, ok, j+1, d, known)
				}
			}
		}
	}
}
