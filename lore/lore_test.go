package lore_test

import (
	"fmt"
	"slices"
	"strings"
	"testing"

	"ratchet/api"
	"ratchet/lore"
	"ratchet/message"
	"ratchet/tag"
)

const greatest = 1<<64 - 1 // the greatest number

// tagged: a message with the tag that its replica's counter gives it.
func tagged(m api.Message) api.Message {
	m.Tag = tag.Numbered(m.Origin, m.Number, message.Bytes(m))
	return m
}

// vec: what is known of the replicas from 1 on.
func vec(known ...uint64) api.Vector {
	var v api.Vector
	copy(v[:], known)
	return v
}

// says: a message of a replica, tagged, which knew that much. Of itself it knows all that it said ahead.
func says(origin int, number uint64, knew ...uint64) api.Message {
	m := api.Message{Origin: origin, Number: number, Deps: vec(knew...), Body: api.Body{Kind: api.KCommit, K: 1}}
	m.Deps[origin-1] = number - 1
	return tagged(m)
}

// with: the same message with another body, tagged.
func with(m api.Message, x api.Body) api.Message {
	m.Body = x
	return tagged(m)
}

// spoilt: a message with a tag that is none.
func spoilt(m api.Message) api.Message {
	m.Tag[31] ^= 1
	return m
}

// begins: a view begins by Changes of these replicas.
func begins(replicas ...int) api.Body {
	x := api.Body{Kind: api.KNewView, View: 1}
	for _, i := range replicas {
		x.Q = append(x.Q, api.Pair{Replica: i, Number: 1})
	}
	return x
}

// names: of whom messages are, and their numbers.
func names(l []api.Message) string {
	var s []string
	for _, m := range l {
		s = append(s, fmt.Sprintf("%d/%d", m.Origin, m.Number))
	}
	return strings.Join(s, " ")
}

// empty: a lore of n replicas.
func empty(t *testing.T, n int) *lore.Lore {
	t.Helper()
	l, e := lore.New(n)
	if e != api.OK || l == nil {
		t.Fatalf("P12.1: New(%d) = %v, %d", n, l, e)
	}
	return l
}

// taking: a lore of n replicas that took these, and a plain one.
func taking(t *testing.T, n int, l ...api.Message) (*lore.Lore, plain) {
	t.Helper()
	o := empty(t, n)
	for _, m := range l {
		if e := o.Add(m); e != api.OK {
			t.Fatalf("P12.1: Add(%+v) = %d", m, e)
		}
	}
	return o, plain{n, l}
}

// story: what three replicas said; 3, 2 and 1 messages.
func story() []api.Message {
	return []api.Message{says(1, 1), says(2, 1, 1), says(1, 2, 0, 1), says(3, 1, 2, 1), says(2, 2, 2, 0, 1), says(1, 3, 0, 2, 1)}
}

// each: the first message of each of n replicas, which knew nothing.
func each(n int) []api.Message {
	var l []api.Message
	for i := 1; i <= n; i++ {
		l = append(l, says(i, 1))
	}
	return l
}

// judged fails unless Check and Add say that of a message, and all stays as it was if it is not taken.
func judged(t *testing.T, name string, n int, ahead []api.Message, m api.Message, want api.Errno) {
	t.Helper()
	l, p := taking(t, n, ahead...)
	for range 2 { // a Check turns nothing
		if e := l.Check(m); e != want {
			t.Errorf("P12.1: %s: Check = %d and not %d", name, e, want)
		}
		is(t, l, p)
	}
	if e := l.Add(m); e != want {
		t.Errorf("P12.1: %s: Add = %d and not %d", name, e, want)
	}
	if want == api.OK {
		p.taken = append(slices.Clone(p.taken), m)
	}
	is(t, l, p)
}

// P12.1: New takes odd numbers from 3 to MaxReplicas, and begins with nothing.
func TestNew(t *testing.T) {
	good := []int{3, 5, 7, 9, 11}
	bad := []int{-1 << 63, -1<<63 + 3, -11, -3, -2, -1, 0, 1, 2, 4, 6, 8, 10, 12, 13, 15, 1<<8 + 3, 1<<32 + 3, 1<<62 + 1, 1<<63 - 1}
	for _, n := range bad {
		if l, e := lore.New(n); l != nil || e != api.ErrArg {
			t.Errorf("P12.1: New(%d) = %v, %d", n, l, e)
		}
	}
	for _, n := range good {
		l, other := empty(t, n), empty(t, n)
		is(t, l, plain{n: n})
		if e := l.Add(says(n, 1)); e != api.OK {
			t.Errorf("P12.1: Add = %d", e)
		}
		is(t, l, plain{n, []api.Message{says(n, 1)}})
		is(t, other, plain{n: n})
	}
}

// The chapter's example: the one that was known has to be taken ahead.
func TestExample(t *testing.T) {
	one, two := says(1, 1), says(2, 1, 1)
	l, p := taking(t, 3, one, two)
	is(t, l, p)
	l, p = taking(t, 3)
	if e := l.Add(two); e != api.ErrOrder {
		t.Errorf("P12.1: Add = %d", e)
	}
	is(t, l, p)
	if e := l.Add(one) + l.Add(two); e != api.OK {
		t.Errorf("P12.1: Add = %d", e)
	}
	is(t, l, plain{3, []api.Message{one, two}})
}

// P12.1: each Kind is taken, whatever it means: a request's tag is not looked at, nor who may say what.
func TestKinds(t *testing.T) {
	r := api.Request{Client: 1, Time: 1, Op: api.Op{Kind: api.OpPut, Key: "a", Value: "1"}}
	for _, x := range []api.Body{
		{Kind: api.KPrepare, Request: message.Signed(r)},
		{Kind: api.KPrepare, Request: r},
		{Kind: api.KPrepare, View: 1<<30 - 1, Request: r},
		{Kind: api.KCommit, View: 9, K: 1 << 62},
		{Kind: api.KChange, View: 1},
		begins(1, 2, 3),
		begins(3),
		{Kind: api.KEnter, View: 1},
		{Kind: api.KCheck, K: 4, Digest: [32]byte{1}},
	} {
		for i := 1; i <= 3; i++ {
			judged(t, "a Kind", 3, nil, with(says(i, 1), x), api.OK)
			judged(t, "a Kind whose tag is none", 3, nil, spoilt(with(says(i, 1), x)), api.ErrTag)
		}
	}
}

// P12.1: what may not be, or names a replica above n, is ErrArg, whatever else is wrong.
func TestMayNot(t *testing.T) {
	own := says(1, 4, 3, 2, 1)
	own.Deps[0] = 2
	high := says(1, 4, 3, 2, 1)
	high.Deps[1] = api.MaxNumber + 1
	noOrigin, below := says(1, 1), says(1, 1)
	noOrigin.Origin, below.Origin = 0, -1
	first := says(1, 1)
	first.Number = 0
	for name, m := range map[string]api.Message{
		"no message":                         {},
		"no Origin":                          tagged(noOrigin),
		"an Origin below":                    tagged(below),
		"the Number 0":                       tagged(first),
		"a Number above MaxNumber":           says(1, api.MaxNumber+1, 0, 2, 1),
		"Deps of its own that are others":    tagged(own),
		"Deps above MaxNumber":               tagged(high),
		"no Kind":                            with(says(1, 4, 3, 2, 1), api.Body{}),
		"one Kind more":                      with(says(1, 4, 3, 2, 1), api.Body{Kind: 7, View: 1}),
		"a body that may not be":             with(says(1, 4, 3, 2, 1), api.Body{Kind: api.KCommit}),
		"a body that may not be, known":      with(says(1, 1), api.Body{Kind: api.KCommit}),
		"a request that may not be":          with(says(1, 4, 3, 2, 1), api.Body{Kind: api.KPrepare}),
		"no Q":                               with(says(1, 4, 3, 2, 1), begins()),
		"a Q that does not rise":             with(says(1, 4, 3, 2, 1), begins(2, 1)),
		"an Origin above n":                  says(4, 1),
		"an Origin above n, that knew much":  says(5, 1, 3, 2, 1),
		"the greatest Origin":                says(11, 1),
		"an Origin above n, no order":        says(4, 3, 9, 9, 9),
		"a Q of one above n":                 with(says(1, 4, 3, 2, 1), begins(4)),
		"a Q of some, one above n":           with(says(1, 4, 3, 2, 1), begins(1, 2, 3, 4)),
		"a Q whose last is above n":          with(says(1, 4, 3, 2, 1), begins(1, 11)),
		"a Q of one above n, known":          with(says(1, 1), begins(4)),
		"a Q of one above n, no order":       with(says(1, 9, 9), begins(4)),
		"Deps of one above n":                says(1, 4, 3, 2, 1, 1),
		"Deps of the greatest replica":       says(1, 4, 3, 2, 1, 0, 0, 0, 0, 0, 0, 0, 1),
		"Deps of all above n":                says(1, 4, 3, 2, 1, 1, 1, 1, 1, 1, 1, 1, 1),
		"Deps of one above n, as far as may": says(1, 4, 3, 2, 1, 0, 1<<16),
		"Deps of one above n, known":         says(1, 1, 0, 0, 0, 1),
		"Deps of one above n, no order":      says(1, 9, 9, 9, 9, 9),
		"Deps of one above n, first":         says(2, 3, 3, 0, 1, 1),
	} {
		judged(t, name, 3, story(), m, api.ErrArg)
		judged(t, name+", a wrong tag", 3, story(), spoilt(m), api.ErrArg)
		judged(t, name+", of nothing", 3, nil, m, api.ErrArg)
	}
}

// P12.1: for each n, a replica up to n may stand in Origin, Q and Deps, and one more may not.
func TestEdgesOfN(t *testing.T) {
	for n := 3; n <= 11; n += 2 {
		for i := 1; i <= 11; i++ {
			want := api.OK
			if i > n {
				want = api.ErrArg
			}
			name := fmt.Sprintf("n %d, replica %d", n, i)
			judged(t, name+", Origin", n, nil, says(i, 1), want)
			judged(t, name+", Q", n, nil, with(says(1, 1), begins(i)), want)
			if i > 1 {
				judged(t, name+", Q behind another one", n, nil, with(says(1, 1), begins(1, i)), want)
				m := says(1, 2)
				m.Deps[i-1] = 1
				judged(t, name+", Deps", n, each(n), tagged(m), want)
			}
		}
	}
}

// P12.1: a wrong tag is told ahead of all but what may not be.
func TestTag(t *testing.T) {
	for name, m := range map[string]api.Message{
		"one that is next":           says(1, 4, 3, 2, 1),
		"one that is known":          says(1, 1),
		"the last one that is known": says(1, 3, 0, 2, 1),
		"another of a known Number":  says(1, 2, 0, 0),
		"Deps below":                 says(1, 4, 3, 1, 1),
		"Deps above":                 says(1, 4, 3, 3, 1),
		"a Number that is not next":  says(1, 5, 4, 2, 1),
	} {
		for _, bit := range []int{0, 1, 7, 8, 100, 128, 255} {
			bad := m
			bad.Tag[bit/8] ^= 1 << (bit % 8)
			judged(t, name, 3, story(), bad, api.ErrTag)
		}
		bad := m
		bad.Tag = [32]byte{}
		judged(t, name+", no tag", 3, story(), bad, api.ErrTag)
		bad.Tag = tag.Numbered(m.Origin, m.Number+1, message.Bytes(m))
		judged(t, name+", of another Number", 3, story(), bad, api.ErrTag)
		bad.Tag = tag.Numbered(m.Origin+1, m.Number, message.Bytes(m))
		judged(t, name+", of another replica", 3, story(), bad, api.ErrTag)
		bad.Tag = says(m.Origin, m.Number, 7, 7, 7).Tag
		judged(t, name+", of other Deps", 3, story(), bad, api.ErrTag)
		bad.Tag = with(m, api.Body{Kind: api.KCommit, K: 2}).Tag
		judged(t, name+", of another body", 3, story(), bad, api.ErrTag)
		bad.Tag = tag.Of(tag.Client(m.Origin), message.Bytes(m))
		judged(t, name+", of a client", 3, story(), bad, api.ErrTag)
	}
}

// P12.1: a Number that is known is ErrAgain, be it the same message or another one; the first one stays.
func TestAgain(t *testing.T) {
	for _, m := range story() {
		judged(t, "the same", 3, story(), m, api.ErrAgain)
		judged(t, "another body", 3, story(), with(m, api.Body{Kind: api.KChange, View: 1}), api.ErrAgain)
		low, high := says(m.Origin, m.Number), says(m.Origin, m.Number, 9, 9, 9)
		judged(t, "Deps of nothing", 3, story(), low, api.ErrAgain)
		judged(t, "Deps above all", 3, story(), high, api.ErrAgain)
	}
}

// P12.1: Deps that are below those of the one ahead are ErrArg, of one that comes next by its Number alone.
func TestBelow(t *testing.T) {
	for _, u := range []struct {
		name string
		m    api.Message
		want api.Errno
	}{
		{"of the one place", says(1, 4, 3, 1, 1), api.ErrArg},
		{"of the other place", says(1, 4, 3, 2, 0), api.ErrArg},
		{"of both", says(1, 4), api.ErrArg},
		{"of one, above at the other", says(1, 4, 3, 1, 2), api.ErrArg},
		{"of the other, above at one", says(1, 4, 3, 9, 0), api.ErrArg},
		{"of another replica", says(2, 3, 1, 0, 1), api.ErrArg},
		{"of another replica, above", says(2, 3, 1, 0, 2), api.ErrArg},
		{"of the third", says(3, 2, 1, 1), api.ErrArg},
		{"the same as the one ahead", says(1, 4, 3, 2, 1), api.OK},
		{"the same, another replica", says(2, 3, 2, 0, 1), api.OK},
		{"all that is known", says(2, 3, 3, 2, 1), api.OK},
		{"the same, the third", says(3, 2, 2, 1), api.OK},
		{"between", says(3, 2, 3, 1), api.OK},
		{"not next, below", says(1, 5, 0, 0, 0), api.ErrOrder},
		{"not next, below at one place", says(1, 5, 0, 1, 1), api.ErrOrder},
		{"far off, below", says(2, 1<<16), api.ErrOrder},
	} {
		judged(t, u.name, 3, story(), u.m, u.want)
	}
}

// P12.1: each place of Deps counts, and it is the one ahead that they are held against, not one ahead of that.
func TestEachPlace(t *testing.T) {
	full := vec(1, 1, 1, 1, 1, 1, 1, 1, 1, 1, 1)
	for i := 1; i <= 11; i++ {
		ahead := append(each(11), says(i, 2, full[:]...))
		judged(t, "the same", 11, ahead, says(i, 3, full[:]...), api.OK)
		for j := 1; j <= 11; j++ {
			if i == j {
				continue
			}
			k := 1 + j%11 // a third one
			if k == i {
				k = 1 + i%11
			}
			low, high, both := full, full, full
			low[j-1], high[j-1] = 0, 2
			both[j-1], both[k-1] = 2, 0
			judged(t, "below", 11, ahead, says(i, 3, low[:]...), api.ErrArg)
			judged(t, "above", 11, ahead, says(i, 3, high[:]...), api.ErrOrder)
			judged(t, "below, and above", 11, ahead, says(i, 3, both[:]...), api.ErrArg)
			judged(t, "below, but not next", 11, ahead, says(i, 4, low[:]...), api.ErrOrder)
			judged(t, "below what the first one knew not", 11, each(11), says(i, 2, low[:]...), api.OK)
			more := append(slices.Clone(ahead), says(j, 2))
			judged(t, "what came behind", 11, more, says(i, 3, high[:]...), api.OK)
			judged(t, "what came behind, and below", 11, more, says(i, 3, both[:]...), api.ErrArg)
		}
	}
}

// P12.1: what is not next, by its Number or by its Deps, is ErrOrder; just what is known may be named.
func TestOrder(t *testing.T) {
	for _, u := range []struct {
		name string
		m    api.Message
		want api.Errno
	}{
		{"next", says(1, 4, 3, 2, 1), api.OK},
		{"one Number more", says(1, 5, 0, 2, 1), api.ErrOrder},
		{"many more", says(1, 1<<16, 0, 2, 1), api.ErrOrder},
		{"a Number more by a byte", says(1, 4+1<<8, 0, 2, 1), api.ErrOrder},
		{"the third: one Number more", says(3, 3, 3, 2), api.ErrOrder},
		{"Deps above", says(1, 4, 0, 3, 1), api.ErrOrder},
		{"Deps above at the other place", says(1, 4, 0, 2, 2), api.ErrOrder},
		{"Deps above at both", says(1, 4, 0, 3, 2), api.ErrOrder},
		{"Deps far above", says(1, 4, 0, 1<<16, 1), api.ErrOrder},
		{"Deps above by a byte", says(1, 4, 0, 2+1<<8, 1), api.ErrOrder},
		{"Deps above, of the first place", says(3, 2, 4, 2), api.ErrOrder},
		{"Deps above, and one Number more", says(1, 5, 0, 3, 1), api.ErrOrder},
		{"all that is known", says(3, 2, 3, 2), api.OK},
	} {
		judged(t, u.name, 3, story(), u.m, u.want)
	}
	for i := 1; i <= 3; i++ {
		judged(t, "the first", 3, nil, says(i, 1), api.OK)
		judged(t, "the second of nothing", 3, nil, says(i, 2), api.ErrOrder)
		judged(t, "the first, Deps above", 3, nil, says(i, 1, 1, 1, 1), api.ErrOrder)
	}
}

// P12.1: a stream goes up to MaxNumber, and all of it may be named.
func TestLongest(t *testing.T) {
	l := empty(t, 3)
	for number := uint64(1); number <= api.MaxNumber; number++ {
		if e := l.Add(says(2, number)); e != api.OK {
			t.Fatalf("P12.1: Add of the Number %d = %d", number, e)
		}
	}
	for _, u := range []struct {
		m    api.Message
		want api.Errno
	}{
		{says(2, api.MaxNumber), api.ErrAgain},
		{says(2, api.MaxNumber+1), api.ErrArg},
		{says(1, 1, 0, api.MaxNumber+1), api.ErrArg},
		{says(1, 2, 0, api.MaxNumber), api.ErrOrder},
		{says(1, 1, 0, api.MaxNumber), api.OK},
		{says(1, 2, 0, api.MaxNumber-1), api.ErrArg},
		{says(3, 1, 1), api.OK},
	} {
		if e := l.Add(u.m); e != u.want {
			t.Errorf("P12.1: Add of %d/%d = %d and not %d", u.m.Origin, u.m.Number, e, u.want)
		}
	}
	if l.Len() != 1<<16+2 || l.Known() != vec(1, 1<<16, 1) {
		t.Errorf("P12.2: Len, Known = %d, %v", l.Len(), l.Known())
	}
	for _, number := range []uint64{1, 1 << 15, 1<<16 - 1, 1 << 16} {
		if m, ok := l.Get(2, number); !ok || !alike(m, says(2, number)) {
			t.Errorf("P12.2: Get(2, %d) = %+v, %v", number, m, ok)
		}
	}
	if m, ok := l.Get(2, 1<<16+1); ok || !alike(m, api.Message{}) {
		t.Errorf("P12.2: Get = %+v", m)
	}
	if got := names(l.Since(vec(0, 1<<16-2), 9)); got != "2/65535 2/65536 1/1 3/1" {
		t.Errorf("P12.2: Since = %s", got)
	}
	if got := len(l.Since(api.Vector{}, 1<<62)); got != 1<<16+2 {
		t.Errorf("P12.2: Since = %d messages", got)
	}
}

// P12.2: Get of all origins and numbers; and of another n.
func TestGet(t *testing.T) {
	l, p := taking(t, 3, story()...)
	is(t, l, p)
	for _, m := range story() {
		if got, ok := l.Get(m.Origin, m.Number); !ok || !alike(got, m) {
			t.Errorf("P12.2: Get(%d, %d) = %+v, %v", m.Origin, m.Number, got, ok)
		}
	}
	for _, u := range []struct {
		origin int
		number uint64
	}{{0, 0}, {0, 1}, {-1, 1}, {4, 1}, {11, 1}, {12, 1}, {1, 0}, {1, 4}, {2, 3}, {3, 2}, {3, 1 << 63}, {1, greatest}, {1<<32 + 1, 1}, {1, 1<<32 + 1}, {-1 << 63, 1}, {1<<63 - 1, 1}} {
		if m, ok := l.Get(u.origin, u.number); ok || !alike(m, api.Message{}) {
			t.Errorf("P12.2: Get(%d, %d) = %+v, %v", u.origin, u.number, m, ok)
		}
	}
	l, p = taking(t, 11, each(11)...)
	is(t, l, p)
}

// P12.2: Known and Len, behind each that was taken, and behind what was refused.
func TestKnown(t *testing.T) {
	l := empty(t, 3)
	want := []api.Vector{vec(1), vec(1, 1), vec(2, 1), vec(2, 1, 1), vec(2, 2, 1), vec(3, 2, 1)}
	for i, m := range story() {
		for _, bad := range []api.Message{spoilt(m), says(4, 1), says(m.Origin, m.Number+1), {}} {
			if e := l.Add(bad); e == api.OK {
				t.Errorf("P12.1: Add(%+v) = %d", bad, e)
			}
		}
		if e := l.Add(m); e != api.OK || l.Add(m) != api.ErrAgain {
			t.Errorf("P12.1: Add = %d", e)
		}
		if l.Len() != i+1 || l.Known() != want[i] {
			t.Errorf("P12.2: behind %d/%d Len, Known = %d, %v", m.Origin, m.Number, l.Len(), l.Known())
		}
	}
}

// P12.2: Since, in the order in which messages were taken, most at most.
func TestSince(t *testing.T) {
	l, p := taking(t, 3, story()...)
	for _, u := range []struct {
		v    api.Vector
		most int
		want string
	}{
		{vec(), -1 << 63, ""},
		{vec(), -1, ""},
		{vec(), 0, ""},
		{vec(), 1, "1/1"},
		{vec(), 2, "1/1 2/1"},
		{vec(), 5, "1/1 2/1 1/2 3/1 2/2"},
		{vec(), 6, "1/1 2/1 1/2 3/1 2/2 1/3"},
		{vec(), 7, "1/1 2/1 1/2 3/1 2/2 1/3"},
		{vec(), 1<<63 - 1, "1/1 2/1 1/2 3/1 2/2 1/3"},
		{vec(1), 9, "2/1 1/2 3/1 2/2 1/3"},
		{vec(1), 1, "2/1"},
		{vec(0, 1), 9, "1/1 1/2 3/1 2/2 1/3"},
		{vec(0, 0, 1), 3, "1/1 2/1 1/2"},
		{vec(1, 1), 9, "1/2 3/1 2/2 1/3"},
		{vec(2, 1, 1), 9, "2/2 1/3"},
		{vec(2, 2, 1), 9, "1/3"},
		{vec(3, 2), 9, "3/1"},
		{vec(3), 9, "2/1 3/1 2/2"},
		{vec(3, 2, 1), 9, ""},
		{vec(3, 2, 1), -9, ""},
		{vec(4), 9, "2/1 3/1 2/2"},
		{vec(0, 9, 9), 9, "1/1 1/2 1/3"},
		{vec(greatest, 1<<32, 1<<63), 9, ""},
		{vec(1<<32, 1, 0), 9, "3/1 2/2"},
		{vec(0, 0, 0, 1, 9, greatest, 1, 1, 1, 1, 1), 9, "1/1 2/1 1/2 3/1 2/2 1/3"},
		{vec(2, 2, 1, 5), 9, "1/3"},
	} {
		since(t, l, p, u.v, u.most)
		if got := names(l.Since(u.v, u.most)); got != u.want {
			t.Errorf("P12.2: Since(%v, %d) = %q and not %q", u.v, u.most, got, u.want)
		}
	}
}

// P12.2: the order is that in which they were taken here, not that of their replicas, nor that of another lore.
func TestOrderOfSince(t *testing.T) {
	for _, u := range []struct {
		l    []api.Message
		want string
	}{
		{[]api.Message{says(3, 1), says(2, 1), says(1, 1)}, "3/1 2/1 1/1"},
		{[]api.Message{says(2, 1), says(3, 1), says(1, 1)}, "2/1 3/1 1/1"},
		{[]api.Message{says(3, 1), says(3, 2), says(1, 1), says(3, 3), says(1, 2), says(2, 1)}, "3/1 3/2 1/1 3/3 1/2 2/1"},
		{[]api.Message{says(1, 1), says(1, 2), says(1, 3), says(2, 1), says(2, 2), says(3, 1)}, "1/1 1/2 1/3 2/1 2/2 3/1"},
	} {
		l, p := taking(t, 3, u.l...)
		is(t, l, p)
		if got := names(l.Since(api.Vector{}, 9)); got != u.want {
			t.Errorf("P12.2: Since = %q and not %q", got, u.want)
		}
	}
}

// P12.3: by few at a time all is told, and taken; of what is not known the beginning alone is told.
func TestByFew(t *testing.T) {
	from, p := taking(t, 3, story()...)
	for most := 1; most <= 7; most++ {
		to, q := taking(t, 3)
		for range 6 {
			for _, m := range from.Since(to.Known(), most) {
				q.takes(t, to, m)
			}
		}
		is(t, to, p)
	}
}

// P12.1, R3: what is handed in is neither changed nor kept, the room behind a list's end neither.
func TestHandedIn(t *testing.T) {
	room := begins(1, 2, 3).Q
	m := with(says(1, 1), api.Body{Kind: api.KNewView, View: 1, Q: room[:2]})
	want := with(says(1, 1), begins(1, 2))
	l, _ := taking(t, 3, m)
	if !slices.Equal(room, begins(1, 2, 3).Q) {
		t.Errorf("R3: Q is %v", room)
	}
	room[0], room[1], room[2] = api.Pair{Replica: 2, Number: 7}, api.Pair{Replica: 3, Number: 8}, api.Pair{}
	is(t, l, plain{3, []api.Message{want}})
	is(t, l, plain{3, []api.Message{want}})
	room[0] = api.Pair{Replica: 9, Number: 9}
	bad := with(says(1, 2), api.Body{Kind: api.KNewView, View: 1, Q: room})
	kept := slices.Clone(room)
	if l.Check(bad) != api.ErrArg || l.Add(bad) != api.ErrArg || !slices.Equal(room, kept) {
		t.Errorf("R3: Q is %v and not %v", room, kept)
	}
}

// P12.2, R3: what Get, Known and Since tell is memory of its own, each list by itself.
func TestOwnMemory(t *testing.T) {
	one, two := with(says(1, 1), begins(1, 2)), with(says(2, 1), begins(2, 3))
	l, p := taking(t, 3, one, two)
	spoil := func(m api.Message) {
		for i := range m.Body.Q[:cap(m.Body.Q)] {
			m.Body.Q[:cap(m.Body.Q)][i] = api.Pair{Replica: 11, Number: 99}
		}
	}
	m, _ := l.Get(1, 1)
	other, _ := l.Get(1, 1)
	some, same := l.Since(api.Vector{}, 9), l.Since(api.Vector{}, 9)
	spoil(m)
	if !alike(other, one) || !alike(some[0], one) {
		t.Errorf("R3: what was told is %+v, %+v", other, some[0])
	}
	is(t, l, p)
	spoil(some[0])
	if !alike(some[1], two) || !alike(same[0], one) || !alike(same[1], two) {
		t.Errorf("R3: what was told is %+v, %+v", some, same)
	}
	is(t, l, p)
	some[1] = api.Message{}
	_ = append(some[:1], says(3, 1), says(3, 2))
	if v := l.Known(); v == vec(1, 1) {
		v[0], v[2] = 9, 9
	}
	is(t, l, p)
	if !slices.EqualFunc(same, p.taken, alike) {
		t.Errorf("R3: what was told is %+v", same)
	}
	if e := l.Add(says(3, 1, 1, 1)); e != api.OK || len(same) != 2 {
		t.Errorf("P12.1: Add = %d", e)
	}
}

// R4: of no lore there is ErrNil, ahead of all others, and nothing.
func TestNoLore(t *testing.T) {
	var l *lore.Lore
	for _, m := range append(story(), api.Message{}, spoilt(says(1, 1)), says(11, 1), says(1, 2)) {
		if e, f := l.Check(m), l.Add(m); e != api.ErrNil || f != api.ErrNil {
			t.Errorf("R4: Check, Add = %d, %d", e, f)
		}
	}
	is(t, l, plain{})
	for _, most := range []int{-1 << 63, -1, 0, 1, 9, 1<<63 - 1} {
		if got := l.Since(vec(1), most); len(got) != 0 {
			t.Errorf("R4: Since = %+v", got)
		}
	}
}
