package session_test

import (
	"slices"
	"testing"

	"ratchet/api"
	"ratchet/ledger"
	"ratchet/session"
)

const latest = 1<<64 - 1 // the greatest time

// The operations, with what their Kinds have.
func get(k string) api.Op    { return api.Op{Kind: api.OpGet, Key: k} }
func put(k, v string) api.Op { return api.Op{Kind: api.OpPut, Key: k, Value: v} }
func move(k, to string, n uint64) api.Op {
	return api.Op{Kind: api.OpMove, Key: k, To: to, Amount: n}
}

// asked: a request of a client, at a time.
func asked(client int, time uint64, o api.Op) api.Request {
	return api.Request{Client: client, Time: time, Op: o}
}

// refused: an answer that is an error.
func refused(e api.Errno) api.Reply { return api.Reply{Err: e} }

// last: what a client was answered last.
func last(time uint64, e api.Errno, value string) api.Last {
	return api.Last{Time: time, Reply: api.Reply{Err: e, Value: value}}
}

// row: entries for all clients, of which those named have these.
func row(named map[int]api.Last) []api.Last {
	l := make([]api.Last, api.MaxClients)
	for c, x := range named {
		l[c-1] = x
	}
	return l
}

// full: an entry for each client, no two of them alike.
func full() []api.Last {
	l := row(nil)
	for i := range l {
		l[i] = last(uint64(10+i), api.Errno(i), string(rune('a'+i)))
	}
	return l
}

// of: the table of these.
func of(t *testing.T, l []api.Last) *session.Table {
	t.Helper()
	s, e := session.Of(l)
	if e != api.OK || s == nil {
		t.Fatalf("P10.1: Of(%+v) = %d", l, e)
	}
	return s
}

// store: a ledger whose a is 10.
func store(t *testing.T) *ledger.Ledger {
	t.Helper()
	l, e := ledger.Of([]api.Item{{Key: "a", Value: "10"}})
	if e != api.OK || l == nil {
		t.Fatalf("P9.1: Of = %d", e)
	}
	return l
}

// has fails unless the table tells these, by List and by Last, and zero of what is no client.
func has(t *testing.T, s *session.Table, want []api.Last) {
	t.Helper()
	if got := s.List(); !slices.Equal(got, want) {
		t.Errorf("P10.1: List = %+v and not %+v", got, want)
	}
	for i, x := range want {
		if got := s.Last(i + 1); got != x {
			t.Errorf("P10.1: Last(%d) = %+v and not %+v", i+1, got, x)
		}
	}
	for _, c := range []int{0, -1, -8, api.MaxClients + 1, 1 << 62, -1 << 63} {
		if got := s.Last(c); got != (api.Last{}) {
			t.Errorf("P10.1: Last(%d) = %+v", c, got)
		}
	}
}

// holds fails unless the ledger has these.
func holds(t *testing.T, l *ledger.Ledger, want ...api.Item) {
	t.Helper()
	if got := l.List(); !slices.Equal(got, want) {
		t.Errorf("P10.2: the ledger has %+v and not %+v", got, want)
	}
}

// told fails unless a request is answered so.
func told(t *testing.T, s *session.Table, l *ledger.Ledger, r api.Request, want api.Reply, done bool) {
	t.Helper()
	if x, now := s.Do(l, r); x != want || now != done {
		t.Errorf("P10.2: Do(%+v) = %+v, %v and not %+v, %v", r, x, now, want, done)
	}
}

// P10.1: of a new table no client was answered, and each is one of its own.
func TestNew(t *testing.T) {
	s, u := session.New(), session.New()
	if s == nil {
		t.Fatal("P10.1: New is none")
	}
	has(t, s, row(nil))
	told(t, s, ledger.New(), asked(1, 1, put("a", "1")), api.Reply{}, true)
	has(t, s, row(map[int]api.Last{1: last(1, 0, "")}))
	has(t, u, row(nil))
}

// P10.1: Of of lists of all lengths, and of entries at all edges.
func TestOf(t *testing.T) {
	only := func(c int, x api.Last) []api.Last { return row(map[int]api.Last{c: x}) }
	but := func(c int, x api.Last) []api.Last {
		l := full()
		l[c-1] = x
		return l
	}
	for _, u := range []struct {
		name string
		l    []api.Last
		want api.Errno
	}{
		{"nil", nil, api.ErrArg},
		{"none", []api.Last{}, api.ErrArg},
		{"one", full()[:1], api.ErrArg},
		{"one too few", full()[:api.MaxClients-1], api.ErrArg},
		{"one too few, all zero", row(nil)[:api.MaxClients-1], api.ErrArg},
		{"one too many", append(full(), last(1, 0, "")), api.ErrArg},
		{"one too many, all zero", append(row(nil), api.Last{}), api.ErrArg},
		{"twice as many", append(full(), full()...), api.ErrArg},
		{"all zero", row(nil), api.OK},
		{"all answered", full(), api.OK},
		{"the first zero", but(1, api.Last{}), api.OK},
		{"the last zero", but(8, api.Last{}), api.OK},
		{"the first alone", only(1, last(1, 0, "x")), api.OK},
		{"the last alone", only(8, last(1, 0, "x")), api.OK},
		{"a Time alone", only(3, last(1, 0, "")), api.OK},
		{"the greatest Time", only(3, last(latest, 0, "x")), api.OK},
		{"an error and a value", only(3, last(4, api.ErrFunds, "3")), api.OK},
		{"the Time 0, and an Err", only(1, last(0, api.ErrNone, "")), api.ErrArg},
		{"the Time 0, and an Err below 0", only(1, last(0, -1, "")), api.ErrArg},
		{"the Time 0, and a Value", only(1, last(0, 0, "x")), api.ErrArg},
		{"the Time 0, and a Value that is a nought", only(1, last(0, 0, "\x00")), api.ErrArg},
		{"the Time 0, and both", only(1, last(0, api.ErrFunds, "x")), api.ErrArg},
		{"the Time 0, and an Err, in the middle", but(4, last(0, api.ErrNone, "")), api.ErrArg},
		{"the Time 0, and a Value, at the end", but(8, last(0, 0, "x")), api.ErrArg},
		{"the Time 0, and an Err, at the end", but(8, last(0, api.ErrNone, "")), api.ErrArg},
		{"one too many, the last of which may not be", append(full(), last(0, 0, "x")), api.ErrArg},
	} {
		s, e := session.Of(u.l)
		if e != u.want || (s == nil) != (u.want != api.OK) {
			t.Errorf("P10.1: %s: Of = %v, %d", u.name, s, e)
		}
		if s != nil {
			has(t, s, u.l)
		}
	}
}

// P10.1: Of of a List has the same, and goes on by itself.
func TestOfList(t *testing.T) {
	s, l := of(t, full()), store(t)
	told(t, s, l, asked(2, 20, get("a")), api.Reply{Value: "10"}, true)
	want := full()
	want[1] = last(20, 0, "10")
	u := of(t, s.List())
	has(t, u, want)
	told(t, u, l, asked(2, 20, get("b")), api.Reply{Value: "10"}, false)
	told(t, u, l, asked(2, 21, get("b")), refused(api.ErrNone), true)
	has(t, s, want)
	want[1] = last(21, api.ErrNone, "")
	has(t, u, want)
	has(t, of(t, session.New().List()), row(nil))
}

// P10.1, R3: what was handed to Of, and what List told, is no table's memory.
func TestOwnMemory(t *testing.T) {
	room := append(full(), last(99, 0, "behind"))
	from, want := room[:api.MaxClients], full()
	s, l := of(t, from), store(t)
	from[0] = last(77, api.ErrFull, "other")
	has(t, s, want)
	for c := 1; c <= api.MaxClients; c++ {
		told(t, s, l, asked(c, 50, get("a")), api.Reply{Value: "10"}, true)
		want[c-1] = last(50, 0, "10")
	}
	kept := append([]api.Last{last(77, api.ErrFull, "other")}, full()[1:]...)
	if !slices.Equal(room, append(kept, last(99, 0, "behind"))) {
		t.Errorf("R3: what was handed in is %+v", room)
	}
	one, two := s.List(), s.List()
	one[0], one[7] = last(1, 0, "y"), last(2, 0, "z")
	_ = append(one[:1], last(3, 0, "w"))
	has(t, s, want)
	told(t, s, l, asked(8, 51, get("b")), refused(api.ErrNone), true)
	if !slices.Equal(two, want) {
		t.Errorf("R3: what was told is %+v", two)
	}
}

// P10.2: the chapter's example.
func TestExample(t *testing.T) {
	s, l := session.New(), store(t)
	told(t, s, l, asked(1, 5, move("a", "b", 4)), api.Reply{Value: "6"}, true)
	told(t, s, l, asked(1, 5, move("a", "b", 4)), api.Reply{Value: "6"}, false)
	told(t, s, l, asked(1, 4, move("a", "b", 4)), refused(api.ErrAgain), false)
	holds(t, l, api.Item{Key: "a", Value: "6"}, api.Item{Key: "b", Value: "4"})
	has(t, s, row(map[int]api.Last{1: last(5, 0, "6")}))
}

// P10.2: what is refused is refused so, in the order that the chapter names, and turns nothing.
func TestRefused(t *testing.T) {
	for _, u := range []struct {
		name   string
		client int
		time   uint64
		want   api.Errno
	}{
		{"client 0", 0, 20, api.ErrArg},
		{"client -1", -1, 20, api.ErrArg},
		{"the lowest client", -1 << 63, 20, api.ErrArg},
		{"one client more", api.MaxClients + 1, 20, api.ErrArg},
		{"many clients more", 1<<63 - 1, 20, api.ErrArg},
		{"a client more by a word's half", 1<<32 + 1, 20, api.ErrArg},
		{"a client more by a byte", 1<<8 + 1, 20, api.ErrArg},
		{"no client, time 0", 0, 0, api.ErrArg},
		{"one client more, time 0", api.MaxClients + 1, 0, api.ErrArg},
		{"no client, the greatest time", 0, latest, api.ErrArg},
		{"time 0", 3, 0, api.ErrArg},
		{"time 0 of the first", 1, 0, api.ErrArg},
		{"time 0 of the last", api.MaxClients, 0, api.ErrArg},
		{"time 1", 3, 1, api.ErrAgain},
		{"a time below", 3, 11, api.ErrAgain},
		{"a time below, of the first", 1, 9, api.ErrAgain},
		{"a time below, of the last", api.MaxClients, 16, api.ErrAgain},
	} {
		for _, o := range []api.Op{put("a", "1"), get("none"), {}} {
			s, l := of(t, full()), store(t)
			r := asked(u.client, u.time, o)
			told(t, s, l, r, refused(u.want), false)
			has(t, s, full())
			holds(t, l, api.Item{Key: "a", Value: "10"})
			var nobody *session.Table
			told(t, nobody, l, r, refused(api.ErrNil), false)
			told(t, s, nil, r, refused(api.ErrNil), false)
			told(t, nobody, nil, r, refused(api.ErrNil), false)
			has(t, s, full())
			holds(t, l, api.Item{Key: "a", Value: "10"})
		}
	}
}

// P10.2: a client of whom nothing was answered has no last one: time 0 is no time, and each other one may be.
func TestFirst(t *testing.T) {
	for c := 1; c <= api.MaxClients; c++ {
		for _, time := range []uint64{1, 2, 1 << 32, latest} {
			s, l := session.New(), store(t)
			told(t, s, l, asked(c, 0, put("a", "1")), refused(api.ErrArg), false)
			has(t, s, row(nil))
			told(t, s, l, asked(c, time, get("a")), api.Reply{Value: "10"}, true)
			has(t, s, row(map[int]api.Last{c: last(time, 0, "10")}))
		}
	}
}

// P10.2: times below, the same as and above the last one, up to the greatest.
func TestTimes(t *testing.T) {
	s, l := session.New(), store(t)
	for _, u := range []struct {
		time uint64
		o    api.Op
		want api.Reply
		done bool
		then api.Last
		a    string // what the ledger has behind it
	}{
		{5, get("a"), api.Reply{Value: "10"}, true, last(5, 0, "10"), "10"},
		{5, get("a"), api.Reply{Value: "10"}, false, last(5, 0, "10"), "10"},
		{5, put("a", "1"), api.Reply{Value: "10"}, false, last(5, 0, "10"), "10"},
		{5, api.Op{}, api.Reply{Value: "10"}, false, last(5, 0, "10"), "10"},
		{4, put("a", "2"), refused(api.ErrAgain), false, last(5, 0, "10"), "10"},
		{1, put("a", "3"), refused(api.ErrAgain), false, last(5, 0, "10"), "10"},
		{0, put("a", "4"), refused(api.ErrArg), false, last(5, 0, "10"), "10"},
		{6, put("a", "5"), api.Reply{}, true, last(6, 0, ""), "5"},
		{6, get("a"), api.Reply{}, false, last(6, 0, ""), "5"},
		{5, get("a"), refused(api.ErrAgain), false, last(6, 0, ""), "5"},
		{900, get("a"), api.Reply{Value: "5"}, true, last(900, 0, "5"), "5"},
		{899, put("a", "6"), refused(api.ErrAgain), false, last(900, 0, "5"), "5"},
		{1 << 63, put("a", "7"), api.Reply{}, true, last(1<<63, 0, ""), "7"},
		{1<<63 - 1, put("a", "8"), refused(api.ErrAgain), false, last(1<<63, 0, ""), "7"},
		{latest - 1, get("a"), api.Reply{Value: "7"}, true, last(latest-1, 0, "7"), "7"},
		{latest, move("a", "b", 8), api.Reply{Err: api.ErrFunds, Value: "7"}, true, last(latest, api.ErrFunds, "7"), "7"},
		{latest, put("a", "9"), api.Reply{Err: api.ErrFunds, Value: "7"}, false, last(latest, api.ErrFunds, "7"), "7"},
		{latest - 1, get("a"), refused(api.ErrAgain), false, last(latest, api.ErrFunds, "7"), "7"},
		{1, put("a", "9"), refused(api.ErrAgain), false, last(latest, api.ErrFunds, "7"), "7"},
		{0, put("a", "9"), refused(api.ErrArg), false, last(latest, api.ErrFunds, "7"), "7"},
	} {
		told(t, s, l, asked(2, u.time, u.o), u.want, u.done)
		has(t, s, row(map[int]api.Last{2: u.then}))
		holds(t, l, api.Item{Key: "a", Value: u.a})
	}
}

// P10.2: an Op that the ledger refuses is answered once too: the error stays the reply, though it would be done now.
func TestRefusedByTheLedger(t *testing.T) {
	filled := ledger.New()
	for i := range api.MaxKeys {
		filled.Do(put(string(rune('A'+i)), "x"))
	}
	for _, u := range []struct {
		name string
		l    *ledger.Ledger
		o    api.Op
		want api.Reply
		mend []api.Op // behind which the ledger would do it
	}{
		{"no such key", store(t), get("b"), refused(api.ErrNone), []api.Op{put("b", "1")}},
		{"no number", store(t), move("a", "b", 1), refused(api.ErrBytes), []api.Op{put("b", "1")}},
		{"less than is to be moved", store(t), move("a", "b", 11), api.Reply{Err: api.ErrFunds, Value: "10"}, []api.Op{put("a", "11")}},
		{"another value", store(t), api.Op{Kind: api.OpSwap, Key: "a", Old: "9", Value: "x"}, api.Reply{Err: api.ErrOther, Value: "10"}, []api.Op{put("a", "9")}},
		{"no room", filled, put("~~", "1"), refused(api.ErrFull), []api.Op{{Kind: api.OpDelete, Key: "A"}}},
		{"no such Kind", store(t), api.Op{}, refused(api.ErrArg), nil},
		{"a key of none", store(t), put("", "1"), refused(api.ErrArg), nil},
	} {
		if u.name == "no number" {
			u.l.Do(put("b", "x"))
		}
		s := session.New()
		before := u.l.List()
		told(t, s, u.l, asked(4, 7, u.o), u.want, true)
		holds(t, u.l, before...)
		for _, o := range u.mend {
			u.l.Do(o)
		}
		before = u.l.List()
		told(t, s, u.l, asked(4, 7, u.o), u.want, false)
		told(t, s, u.l, asked(4, 6, u.o), refused(api.ErrAgain), false)
		holds(t, u.l, before...)
		has(t, s, row(map[int]api.Last{4: {Time: 7, Reply: u.want}}))
		x, now := s.Do(u.l, asked(4, 8, u.o))
		if !now || (x.Err == api.OK) != (u.mend != nil) {
			t.Errorf("P10.2: %s: at the next time Do = %+v, %v", u.name, x, now)
		}
		has(t, s, row(map[int]api.Last{4: {Time: 8, Reply: x}}))
	}
}

// P10.2: a client's answer leaves those of the others as they were, and their times are their own.
func TestOthers(t *testing.T) {
	for c := 1; c <= api.MaxClients; c++ {
		s, l, want := of(t, full()), store(t), full()
		told(t, s, l, asked(c, 100, get("a")), api.Reply{Value: "10"}, true)
		want[c-1] = last(100, 0, "10")
		has(t, s, want)
		for d := 1; d <= api.MaxClients; d++ {
			if d != c {
				told(t, s, l, asked(d, 99, put("a", "10")), api.Reply{}, true)
				want[d-1] = last(99, 0, "")
			}
			has(t, s, want)
		}
		told(t, s, l, asked(c, 99, get("a")), refused(api.ErrAgain), false)
		has(t, s, want)
	}
}

// P10.2: a request's Tag is not looked at: with any one it is done, and is the same request.
func TestTag(t *testing.T) {
	s, l := session.New(), store(t)
	r := asked(1, 1, move("a", "b", 1))
	for i := range r.Tag {
		r.Tag[i] = byte(7 * i)
	}
	told(t, s, l, r, api.Reply{Value: "9"}, true)
	r.Tag = [32]byte{}
	told(t, s, l, r, api.Reply{Value: "9"}, false)
	r.Time = 2
	told(t, s, l, r, api.Reply{Value: "8"}, true)
	holds(t, l, api.Item{Key: "a", Value: "8"}, api.Item{Key: "b", Value: "2"})
}

// P10.2: the table goes by its own answers, whatever the ledger is.
func TestLedgers(t *testing.T) {
	s, one, two := session.New(), store(t), ledger.New()
	told(t, s, one, asked(1, 1, get("a")), api.Reply{Value: "10"}, true)
	told(t, s, two, asked(1, 1, put("a", "1")), api.Reply{Value: "10"}, false)
	told(t, s, two, asked(1, 2, get("a")), refused(api.ErrNone), true)
	holds(t, one, api.Item{Key: "a", Value: "10"})
	holds(t, two)
}

// P10.3: of requests of one client and time one is done at most; what is done has rising times.
func TestOnce(t *testing.T) {
	s, l := session.New(), store(t)
	var times []uint64
	for _, time := range []uint64{3, 3, 1, 2, 3, 4, 4, 3, 9, 5, 9, 4, 10, 10} {
		if _, now := s.Do(l, asked(1, time, move("a", "b", 1))); now {
			times = append(times, time)
		}
	}
	if !slices.Equal(times, []uint64{3, 4, 9, 10}) {
		t.Errorf("P10.3: done at %v", times)
	}
	holds(t, l, api.Item{Key: "a", Value: "6"}, api.Item{Key: "b", Value: "4"})
}

// R4: of no table there is nothing.
func TestNoTable(t *testing.T) {
	var s *session.Table
	has(t, s, nil)
	for c := -1; c <= api.MaxClients+1; c++ {
		if x := s.Last(c); x != (api.Last{}) {
			t.Errorf("P10.1: Last(%d) of no table = %+v", c, x)
		}
	}
	l := store(t)
	told(t, s, l, asked(1, 1, put("a", "1")), refused(api.ErrNil), false)
	told(t, s, nil, asked(1, 1, put("a", "1")), refused(api.ErrNil), false)
	told(t, session.New(), nil, asked(1, 1, put("a", "1")), refused(api.ErrNil), false)
	holds(t, l, api.Item{Key: "a", Value: "10"})
}
