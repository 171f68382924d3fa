package session_test

import (
	"math/rand"
	"slices"
	"testing"

	"ratchet/api"
	"ratchet/ledger"
	"ratchet/session"
)

// plain is a table as the chapter's words say it: all that was done, the latest at the end.
type plain []api.Request

// replies are what was answered to each, beside it.
type replies []api.Reply

// mayBeClient: is it one?
func mayBeClient(c int) bool { return c > 0 && c < 9 }

// some: one of these.
func some[T any](r *rand.Rand, l ...T) T { return l[r.Intn(len(l))] }

// anyOp: few keys, so that they meet; now and then one that may not be.
func anyOp(r *rand.Rand) api.Op {
	k, to := some(r, "a", "b", "c"), some(r, "a", "b", "c")
	return some(r, get(k), put(k, some(r, "3", "5", "x")), put(k, "9"), move(k, to, uint64(r.Intn(6))),
		api.Op{Kind: api.OpDelete, Key: k}, api.Op{Kind: api.OpSwap, Key: k, Old: "3", Value: "4"}, api.Op{})
}

// anyRequest: of a client, at a time near those of the others; now and then of none, or far off.
func anyRequest(r *rand.Rand) api.Request {
	q := asked(1+r.Intn(8), uint64(1+r.Intn(40)), anyOp(r))
	if r.Intn(12) == 0 {
		q.Client = some(r, 0, -1, 9, 8, 1, 1<<40)
	}
	if r.Intn(40) == 0 {
		q.Time = some[uint64](r, 0, 0, 0, 1, 1<<63)
	}
	r.Read(q.Tag[:])
	return q
}

// latestOf: what a client was answered last, as all that was done tells it.
func (p plain) latestOf(x replies, c int) api.Last {
	for i := len(p) - 1; i >= 0; i-- {
		if p[i].Client == c {
			return api.Last{Time: p[i].Time, Reply: x[i]}
		}
	}
	return api.Last{}
}

// list: that of each.
func (p plain) list(x replies) []api.Last {
	var l []api.Last
	for c := range 8 {
		l = append(l, p.latestOf(x, c+1))
	}
	return l
}

// expect: what a request is to be answered, as the chapter's words say it; done by a ledger of its own, if it is to be done.
func (p plain) expect(x replies, own *ledger.Ledger, q api.Request) (api.Reply, bool) {
	l := p.latestOf(x, q.Client)
	switch {
	case !mayBeClient(q.Client), q.Time < 1:
		return api.Reply{Err: 1}, false
	case q.Time == l.Time:
		return l.Reply, false
	case q.Time > l.Time:
		return own.Do(q.Op), true
	}
	return api.Reply{Err: 13}, false
}

// P10.1, P10.2, P10.3: any requests, each held against the plain reading; and Of of a List goes on as the table does.
func TestAnyRequests(t *testing.T) {
	var met [4]int // refused as none; again; the same; done
	for seed := range int64(150) {
		r := rand.New(rand.NewSource(seed))
		s, l, own := session.New(), ledger.New(), ledger.New()
		var p plain
		var x replies
		for range 200 {
			q := anyRequest(r)
			want, done := p.expect(x, own, q)
			if got, now := s.Do(l, q); got != want || now != done {
				t.Fatalf("P10.2: seed %d: Do(%+v) = %+v, %v and not %+v, %v", seed, q, got, now, want, done)
			}
			switch {
			case done:
				p, x = append(p, q), append(x, want)
				met[3]++
			case want == refused(1):
				met[0]++
			case want == refused(13):
				met[1]++
			default:
				met[2]++
			}
			if got := s.List(); !slices.Equal(got, p.list(x)) {
				t.Fatalf("P10.1: seed %d: behind %+v List = %+v", seed, q, got)
			}
			if got, c := s.Last(q.Client), q.Client; got != p.latestOf(x, c) && mayBeClient(c) {
				t.Fatalf("P10.1: seed %d: behind %+v Last = %+v", seed, q, got)
			}
			if !slices.Equal(l.List(), own.List()) {
				t.Fatalf("P10.2: seed %d: behind %+v the ledger has %+v", seed, q, l.List())
			}
			if r.Intn(4) == 0 {
				s = of(t, s.List())
			}
		}
		onceEach(t, p)
	}
	if slices.Min(met[:]) < 100 {
		t.Errorf("too few of some answer: %v", met)
	}
}

// onceEach fails unless what was done has rising times, of each client.
func onceEach(t *testing.T, p plain) {
	t.Helper()
	met := map[int]uint64{}
	for _, q := range p {
		if q.Time <= met[q.Client] {
			t.Fatalf("P10.3: %+v was done behind the time %d", q, met[q.Client])
		}
		met[q.Client] = q.Time
	}
}

// anyLasts: as many as there are clients, mostly, which may be, mostly.
func anyLasts(r *rand.Rand) []api.Last {
	l := make([]api.Last, some(r, 8, 8, 8, 8, 8, 7, 9, 0, 1, 16))
	for i := range l {
		if r.Intn(3) > 0 {
			l[i] = last(some[uint64](r, 1, 2, 1<<64-1), some[api.Errno](r, 0, 1, 4, 14), some(r, "", "7"))
		}
		if r.Intn(20) == 0 {
			l[i].Time = 0
		}
	}
	return l
}

// P10.1: Of of any entries, held against the chapter's words.
func TestAnyLasts(t *testing.T) {
	met := map[api.Errno]int{}
	r := rand.New(rand.NewSource(10))
	for range 4000 {
		l, want := anyLasts(r), api.OK
		if len(l) != 8 {
			want = api.ErrArg
		}
		for _, x := range l {
			if x.Time == 0 && (x.Reply.Err != 0 || x.Reply.Value != "") {
				want = api.ErrArg
			}
		}
		met[want]++
		s, e := session.Of(l)
		if e != want || (s == nil) != (want != api.OK) || s != nil && !slices.Equal(s.List(), l) {
			t.Fatalf("P10.1: Of(%+v) = %d and not %d", l, e, want)
		}
	}
	if met[api.OK] < 500 || met[api.ErrArg] < 500 {
		t.Errorf("too few of some answer: %v", met)
	}
}
