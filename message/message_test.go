package message_test

import (
	"bytes"
	"math"
	"reflect"
	"slices"
	"strings"
	"testing"

	"ratchet/api"
	"ratchet/message"
	"ratchet/tag"
)

// request: one that may be, with its tag.
func request() api.Request {
	r := api.Request{Client: 3, Time: 7, Op: api.Op{Kind: api.OpMove, Key: "k", Value: "vv", Old: "o", To: "to", Amount: 258}}
	r.Tag = tag.Of(tag.Client(3), []byte(asks(r)))
	return r
}

// longest: a request whose texts are all as long as may be.
func longest() api.Request {
	k, v := strings.Repeat("k", api.MaxKey), strings.Repeat("v", api.MaxValue)
	return api.Request{Client: api.MaxClients, Time: 1 << 62, Op: api.Op{Kind: 255, Key: k, Value: v, Old: v, To: k, Amount: math.MaxUint64}}
}

// pairs: n of them, of the replicas from 1 on.
func pairs(n int) []api.Pair {
	var q []api.Pair
	for i := range n {
		q = append(q, api.Pair{Replica: i + 1, Number: uint64(n - i)})
	}
	return q
}

// saying: a message of replica 2 with its counter's tag.
func saying(x api.Body) api.Message {
	m := api.Message{Origin: 2, Number: 3, Body: x}
	m.Deps[0], m.Deps[1], m.Deps[10] = 5, 2, api.MaxNumber
	return numbered(m)
}

// numbered: a message with the tag that its counter gives it.
func numbered(m api.Message) api.Message {
	m.Tag = tag.Numbered(m.Origin, m.Number, []byte(says(m)))
	return m
}

// bodies: one of each Kind, at its place less 1.
func bodies() []api.Body {
	return []api.Body{
		{Kind: api.KPrepare, View: 4, Request: request()},
		{Kind: api.KCommit, View: 4, K: 2},
		{Kind: api.KChange, View: 5},
		{Kind: api.KNewView, View: 5, Q: []api.Pair{{Replica: 1, Number: 9}, {Replica: 11, Number: 1}}},
		{Kind: api.KEnter, View: 1},
		{Kind: api.KCheck, K: 8, Digest: [32]byte{1, 2, 31: 3}},
	}
}

// judged fails unless the message may be, or may not, in all that is answered of it.
func judged(t *testing.T, name string, m api.Message, may bool) {
	t.Helper()
	if message.May(m) != may || sayable(m) != may {
		t.Errorf("P8.1: %s: May = %v", name, !may)
		return
	}
	if may {
		bears(t, m)
		return
	}
	mustNot(t, m)
}

// gone fails unless the bytes are none of a message.
func gone(t *testing.T, name string, b []byte) {
	t.Helper()
	if m, e := message.Get(b); e != api.ErrBytes || !reflect.DeepEqual(m, api.Message{}) {
		t.Errorf("P8.1: %s: Get = %+v, %d", name, m, e)
	}
}

// lost fails unless Of has no message.
func lost(t *testing.T, name string, i int, n uint64, b []byte) {
	t.Helper()
	if m, e := message.Of(i, n, b, [32]byte{7}); e != api.ErrBytes || !reflect.DeepEqual(m, api.Message{}) {
		t.Errorf("P8.1: %s: Of = %+v, %d", name, m, e)
	}
}

// P8.1: one of each Kind, to the last byte.
func TestEachKind(t *testing.T) {
	for _, x := range bodies() {
		m := saying(x)
		judged(t, "a message", m, true)
		m.Tag = [32]byte{9}
		judged(t, "whatever its tag is", m, true)
	}
	m := api.Message{Origin: 2, Number: 1, Body: api.Body{Kind: api.KCommit, K: 1}}
	want := word(1) + "\x02" + strings.Repeat("\x00", 88) + "\x02" + word(0) + word(1) + strings.Repeat("\x00", 32)
	if b := message.Put(m); string(b) != want || len(b) != 146 {
		t.Errorf("P8.1: Put = %x", b)
	}
	q := saying(bodies()[3])
	want = "\x04" + word(5) + "\x02" + "\x01" + word(9) + "\x0b" + word(1)
	if b := message.Bytes(q); string(b[89:]) != want {
		t.Errorf("P8.1: Bytes = %x", b[89:])
	}
}

// P8.1: Origin, Number and Deps at their edges.
func TestWhoAndWhen(t *testing.T) {
	for _, x := range bodies() {
		for i, may := range map[int]bool{math.MinInt: false, -1: false, 0: false, 1: true, 2: true, 11: true, 12: false, 256: false, 257: false, 1 << 32: false, 1<<32 + 1: false, math.MaxInt: false} {
			m := api.Message{Origin: i, Number: 1, Body: x}
			judged(t, "Origin", m, may)
		}
		for n, may := range map[uint64]bool{0: false, 1: true, 2: true, 1<<16 - 1: true, 1 << 16: true, 1<<16 + 1: false, 1 << 32: false, math.MaxUint64: false} {
			m := api.Message{Origin: 11, Number: n, Body: x}
			m.Deps[10] = n - 1
			judged(t, "Number", m, may)
		}
		for i := range api.MaxReplicas {
			for n, may := range map[uint64]bool{0: true, 1: true, 1 << 16: true, 1<<16 + 1: false, 1 << 32: false, math.MaxUint64: false} {
				m := saying(x)
				m.Deps[i] = n
				judged(t, "Deps", m, may && i != 1)
			}
		}
		for n, may := range map[uint64]bool{0: false, 1: false, 2: true, 3: false, 4: false} {
			m := saying(x)
			m.Deps[1] = n
			judged(t, "its own place", m, may)
		}
	}
}

// alike: have two Kinds the same fields?
func alike(k, l uint8) bool {
	return k == l || k == api.KChange && l == api.KEnter || k == api.KEnter && l == api.KChange
}

// P8.1: each Kind, and what is none.
func TestKinds(t *testing.T) {
	for _, x := range bodies() {
		for k := range 256 {
			m := saying(x)
			m.Body.Kind = uint8(k)
			judged(t, "Kind", m, alike(uint8(k), x.Kind))
		}
	}
}

// P8.1: View and K at their edges, of each Kind that has them, and of those that have not.
func TestViewAndK(t *testing.T) {
	for _, x := range bodies() {
		hasView, from0 := x.Kind != api.KCheck, x.Kind <= api.KCommit
		for v, may := range map[uint64]bool{1: true, 2: true, api.MaxView - 1: true, api.MaxView: false, api.MaxView + 1: false, 1 << 32: false, math.MaxUint64: false} {
			m := saying(x)
			m.Body.View = v
			judged(t, "View", m, may && hasView)
		}
		m := saying(x)
		m.Body.View = 0
		judged(t, "View 0", m, from0 || !hasView)
		hasK := x.Kind == api.KCommit || x.Kind == api.KCheck
		for k, may := range map[uint64]bool{1: true, 1 << 62: true, 1<<62 + 1: false, 1 << 63: false, math.MaxUint64: false} {
			m := saying(x)
			m.Body.K = k
			judged(t, "K", m, may && hasK)
		}
		m.Body.View, m.Body.K = x.View, 0
		judged(t, "K 0", m, !hasK)
	}
}

// P8.1: fields that a Kind has not, each alone.
func TestNothingElse(t *testing.T) {
	turns := []struct {
		name string
		of   uint8
		turn func(x *api.Body)
	}{
		{"Client", api.KPrepare, func(x *api.Body) { x.Request.Client = 1 }},
		{"Time", api.KPrepare, func(x *api.Body) { x.Request.Time = 1 }},
		{"Op.Kind", api.KPrepare, func(x *api.Body) { x.Request.Op.Kind = 1 }},
		{"Key", api.KPrepare, func(x *api.Body) { x.Request.Op.Key = "k" }},
		{"Value", api.KPrepare, func(x *api.Body) { x.Request.Op.Value = "v" }},
		{"Old", api.KPrepare, func(x *api.Body) { x.Request.Op.Old = "o" }},
		{"To", api.KPrepare, func(x *api.Body) { x.Request.Op.To = "t" }},
		{"Amount", api.KPrepare, func(x *api.Body) { x.Request.Op.Amount = 1 }},
		{"Request.Tag", api.KPrepare, func(x *api.Body) { x.Request.Tag[31] = 1 }},
		{"a request", api.KPrepare, func(x *api.Body) { x.Request = request() }},
		{"Q", api.KNewView, func(x *api.Body) { x.Q = []api.Pair{{Replica: 1, Number: 1}} }},
		{"a zero pair", 0, func(x *api.Body) { x.Q = []api.Pair{{}} }},
		{"Digest", api.KCheck, func(x *api.Body) { x.Digest[0]++ }},
		{"its end", api.KCheck, func(x *api.Body) { x.Digest[31]++ }},
	}
	for _, x := range bodies() {
		for _, u := range turns {
			m := saying(x)
			u.turn(&m.Body)
			judged(t, u.name, m, x.Kind == u.of)
		}
		if x.Kind != api.KNewView {
			m := saying(x)
			m.Body.Q = []api.Pair{}
			if b := message.Put(m); string(b) != all(m) || !message.May(m) {
				t.Errorf("P8.1: an empty Q is not the same as none: %d", x.Kind)
			}
		}
	}
}

// P8.1: the requests of a Prepare are those that may be, whatever their tags are.
func TestPrepared(t *testing.T) {
	for _, u := range requests() {
		m := saying(api.Body{Kind: api.KPrepare, Request: u.r})
		judged(t, u.name, m, u.may)
		m.Body.Request.Tag = [32]byte{8, 31: 7}
		judged(t, u.name, m, u.may)
	}
	m := saying(api.Body{Kind: api.KPrepare, Request: longest()})
	if b := message.Bytes(m); len(b) != 1+88+1+8+18+8+2*api.MaxKey+2*api.MaxValue+32 || len(b) > api.MaxBody {
		t.Errorf("P8.1: the longest has %d bytes", len(b))
	}
}

// P8.1: pairs, how many and which.
func TestPairs(t *testing.T) {
	for n := range api.MaxReplicas + 1 {
		judged(t, "some pairs", saying(api.Body{Kind: api.KNewView, View: 1, Q: pairs(n)}), n > 0)
	}
	for _, u := range []struct {
		name string
		q    []api.Pair
		may  bool
	}{
		{"none", []api.Pair{}, false},
		{"one more", append(pairs(11), api.Pair{Replica: 12, Number: 1}), false},
		{"one more, of one that there is", append(pairs(11), api.Pair{Replica: 11, Number: 1}), false},
		{"as many as a byte does not tell", slices.Repeat(pairs(1), 257), false},
		{"falling", []api.Pair{{Replica: 2, Number: 1}, {Replica: 1, Number: 1}}, false},
		{"falling at the end", []api.Pair{{Replica: 1, Number: 1}, {Replica: 3, Number: 1}, {Replica: 2, Number: 1}}, false},
		{"twice", []api.Pair{{Replica: 2, Number: 1}, {Replica: 2, Number: 1}}, false},
		{"twice, other numbers", []api.Pair{{Replica: 2, Number: 1}, {Replica: 2, Number: 2}}, false},
		{"with gaps", []api.Pair{{Replica: 3, Number: 9}, {Replica: 7, Number: 9}}, true},
		{"replica 0", []api.Pair{{Number: 1}}, false},
		{"replica -1", []api.Pair{{Replica: -1, Number: 1}, {Replica: 1, Number: 1}}, false},
		{"replica 11", []api.Pair{{Replica: 11, Number: 1}}, true},
		{"replica 12", []api.Pair{{Replica: 12, Number: 1}}, false},
		{"replica 257", []api.Pair{{Replica: 257, Number: 1}}, false},
		{"number 0", []api.Pair{{Replica: 1}}, false},
		{"number 0, behind", []api.Pair{{Replica: 1, Number: 1}, {Replica: 2}}, false},
		{"the last number", []api.Pair{{Replica: 1, Number: api.MaxNumber}}, true},
		{"one more than the last", []api.Pair{{Replica: 1, Number: api.MaxNumber + 1}}, false},
		{"the greatest", []api.Pair{{Replica: 1, Number: math.MaxUint64}}, false},
	} {
		judged(t, u.name, saying(api.Body{Kind: api.KNewView, View: 1, Q: u.q}), u.may)
	}
}

// P8.1: bytes of a wrong length, of each Kind, and of counts and Kinds that are wrong.
func TestNoMessages(t *testing.T) {
	gone(t, "nil", nil)
	gone(t, "no bytes", []byte{})
	lost(t, "nil", 2, 3, nil)
	for _, x := range bodies() {
		m := saying(x)
		b, c := []byte(all(m)), []byte(says(m))
		for n := range b {
			gone(t, "cut", b[:n])
			gone(t, "its end", b[len(b)-n:])
		}
		for n := range c {
			lost(t, "cut", 2, 3, c[:n])
		}
		gone(t, "one more", append(b, 0))
		lost(t, "one more", 2, 3, append(c, 0))
		gone(t, "one ahead", append([]byte{0}, b...))
		for k := range 256 {
			b, c = []byte(all(m)), []byte(says(m))
			b[8+89], c[89] = byte(k), byte(k)
			if alike(uint8(k), x.Kind) {
				continue
			}
			gone(t, "another Kind", b)
			lost(t, "another Kind", 2, 3, c)
		}
	}
	gone(t, "much", make([]byte, 1<<20))
	lost(t, "much", 2, 3, make([]byte, 1<<20))
}

// P8.1: a count of pairs, or the length of a text, that is not that of those that there are.
func TestCounts(t *testing.T) {
	m := saying(bodies()[3])
	for n := range 256 {
		b := []byte(all(m))
		if b[8+98] = byte(n); n != 2 {
			gone(t, "a count of pairs", b)
			lost(t, "a count of pairs", 2, 3, b[8:len(b)-32])
		}
	}
	for n := range 256 { // pairs that there are, but too many
		x := bodies()[3]
		x.Q = slices.Repeat(pairs(1), n+2)
		gone(t, "so many pairs", []byte(all(saying(x))))
	}
	m = saying(bodies()[0])
	at := 8 + 98 + 18
	for _, n := range []int{1, 2, 1, 2} { // the lengths of k, vv, o, to
		for _, l := range []int{0, n - 1, n + 1, n + 2, 255, 1 << 8, 1<<16 - 1} {
			b := []byte(all(m))
			if b[at], b[at+1] = byte(l>>8), byte(l); l != n {
				gone(t, "a length", b)
			}
		}
		at += 2 + n
	}
}

// P8.1: Of another origin or number.
func TestOf(t *testing.T) {
	for _, x := range bodies() {
		m := saying(x)
		c := []byte(says(m))
		for _, i := range []int{math.MinInt, -254, -1, 0, 1, 3, 11, 12, 258, 1<<32 + 2, math.MaxInt} {
			lost(t, "another origin", i, 3, c)
		}
		for _, n := range []uint64{0, 1, 2, 4, 1<<16 + 3, 1<<32 + 3, math.MaxUint64} {
			lost(t, "another number", 2, n, c)
		}
		m.Tag = [32]byte{31: 1}
		if got, e := message.Of(2, 3, c, m.Tag); e != api.OK || !reflect.DeepEqual(got, m) {
			t.Errorf("P8.1: Of = %+v, %d", got, e)
		}
	}
	c := []byte(says(saying(bodies()[1])))
	for _, i := range []int{0, 12, 255} {
		c[0] = byte(i)
		lost(t, "no replica", i, 3, c)
	}
}

// P8.2: a message is right by its counter's tag alone.
func TestRight(t *testing.T) {
	for _, x := range bodies() {
		m := saying(x)
		if !message.Right(m) {
			t.Errorf("P8.2: not right: %+v", m)
		}
		for i := range 256 {
			y := m
			if y.Tag[i/8] ^= 1 << (i % 8); message.Right(y) {
				t.Errorf("P8.2: right with bit %d turned", i)
			}
		}
		y := m
		for i := 1; i <= api.MaxReplicas; i++ {
			if y.Tag = tag.Numbered(i, 3, []byte(says(m))); message.Right(y) != (i == 2) {
				t.Errorf("P8.2: right by the key of %d", i)
			}
		}
		if y.Tag = tag.Numbered(2, 4, []byte(says(m))); message.Right(y) {
			t.Error("P8.2: right by another number's tag")
		}
		if y.Tag = tag.Of(tag.Replica(2), []byte(all(m))); message.Right(y) {
			t.Error("P8.2: right by a tag of all bytes")
		}
	}
	if message.Right(api.Message{}) || message.Right(numbered(api.Message{Origin: 1, Number: 1})) {
		t.Error("P8.2: right, though it may not be")
	}
}

// asked is a request, and whether it may be.
type asked struct {
	name string
	r    api.Request
	may  bool
}

// requests: at all edges.
func requests() []asked {
	var out []asked
	add := func(name string, may bool, turn func(r *api.Request)) {
		r := request()
		turn(&r)
		out = append(out, asked{name, r, may})
	}
	for i, may := range map[int]bool{math.MinInt: false, -1: false, 0: false, 1: true, 8: true, 9: false, 256: false, 257: false, 1<<32 + 1: false, math.MaxInt: false} {
		add("Client", may, func(r *api.Request) { r.Client = i })
	}
	for n, may := range map[uint64]bool{0: false, 1: true, 1 << 62: true, 1<<62 + 1: false, math.MaxUint64: false} {
		add("Time", may, func(r *api.Request) { r.Time = n })
	}
	for k := range 256 {
		add("Op.Kind", true, func(r *api.Request) { r.Op.Kind = uint8(k) })
	}
	for _, n := range []uint64{0, 1, 1 << 62, math.MaxUint64} {
		add("Amount", true, func(r *api.Request) { r.Op.Amount = n })
	}
	for _, n := range []int{0, 1, 31, 32, 33, 128, 129, 1<<16 - 1, 1 << 16, 1<<16 + 1} {
		s := strings.Repeat("\xff", n)
		add("Key", n <= 32, func(r *api.Request) { r.Op.Key = s })
		add("To", n <= 32, func(r *api.Request) { r.Op.To = s })
		add("Value", n <= 128, func(r *api.Request) { r.Op.Value = s })
		add("Old", n <= 128, func(r *api.Request) { r.Op.Old = s })
	}
	add("no texts", true, func(r *api.Request) { r.Op = api.Op{} })
	add("longest", true, func(r *api.Request) { *r = longest() })
	add("nothing", false, func(r *api.Request) { *r = api.Request{} })
	return out
}

// P8.3: requests at all edges.
func TestRequests(t *testing.T) {
	for _, u := range requests() {
		want := u.r
		if u.may {
			want.Tag = tag.Of(tag.Client(u.r.Client), []byte(asks(u.r)))
		}
		if message.Asked(u.r) != u.may {
			t.Errorf("P8.3: %s: Asked = %v", u.name, !u.may)
		}
		got := message.Signed(u.r)
		if got != want || message.Authentic(got) != u.may {
			t.Errorf("P8.3: %s: Signed = %+v", u.name, got)
		}
		u.r.Tag = [32]byte{4}
		if message.Asked(u.r) != u.may || message.Authentic(u.r) {
			t.Errorf("P8.3: %s: of a tag that is none", u.name)
		}
		if message.Signed(u.r) != want && u.may || message.Signed(u.r) != u.r && !u.may {
			t.Errorf("P8.3: %s: signed over another tag", u.name)
		}
		// The tag that it would have makes none of it that may not be.
		u.r.Tag = tag.Of(tag.Client(u.r.Client), []byte(asks(u.r)))
		if message.Authentic(u.r) != u.may {
			t.Errorf("P8.3: %s: Authentic", u.name)
		}
	}
}

// P8.3: no bit of the tag, and no other client's tag.
func TestAuthentic(t *testing.T) {
	r := message.Signed(request())
	if r != request() {
		t.Fatalf("P8.3: Signed = %+v", r)
	}
	for i := range 256 {
		x := r
		if x.Tag[i/8] ^= 1 << (i % 8); message.Authentic(x) {
			t.Errorf("P8.3: authentic with bit %d turned", i)
		}
	}
	for i := 0; i <= api.MaxClients+1; i++ {
		x := r
		if x.Tag = tag.Of(tag.Client(i), []byte(asks(r))); message.Authentic(x) != (i == 3) {
			t.Errorf("P8.3: authentic by the key of client %d", i)
		}
		if x.Tag = tag.Of(tag.Replica(i), []byte(asks(r))); message.Authentic(x) {
			t.Errorf("P8.3: authentic by the key of replica %d", i)
		}
		if x = r; i != 3 {
			if x.Client = i; message.Authentic(x) {
				t.Errorf("P8.3: the tag of 3 is that of client %d", i)
			}
		}
	}
	for i, turn := range requestTurns() {
		x := r
		turn(&x)
		if message.Authentic(x) || message.Signed(x).Tag == r.Tag && x != r {
			t.Errorf("P8.3: authentic with the field %d turned", i)
		}
	}
}

// requestTurns: each field that is tagged, by itself; and what lies between two of them.
func requestTurns() []func(r *api.Request) {
	return []func(r *api.Request){
		func(r *api.Request) { r.Client++ },
		func(r *api.Request) { r.Time++ },
		func(r *api.Request) { r.Op.Kind++ },
		func(r *api.Request) { r.Op.Amount++ },
		func(r *api.Request) { r.Op.Key += "k" },
		func(r *api.Request) { r.Op.Key = "" },
		func(r *api.Request) { r.Op.Value = "vw" },
		func(r *api.Request) { r.Op.Old = "p" },
		func(r *api.Request) { r.Op.To = "tp" },
		func(r *api.Request) { r.Op.Key, r.Op.Value = "kv", "v" },
		func(r *api.Request) { r.Op.Value, r.Op.Old = "v", "vo" },
		func(r *api.Request) { r.Op.Old, r.Op.To = "ot", "o" },
		func(r *api.Request) { r.Op.Old, r.Op.To = r.Op.To, r.Op.Old },
		func(r *api.Request) { r.Op.Key, r.Op.Old = r.Op.Old, r.Op.Key },
	}
}

// messageTurns: each field of a message that its bytes tell, by itself, as far as it may still be.
func messageTurns() []func(m *api.Message) {
	out := []func(m *api.Message){
		func(m *api.Message) { m.Number, m.Deps[1] = 4, 3 },
		func(m *api.Message) { m.Origin, m.Deps[0] = 1, 2 },
		func(m *api.Message) { m.Body.View++ },
		func(m *api.Message) { m.Body.K++ },
		func(m *api.Message) { m.Body.Digest[0]++ },
		func(m *api.Message) { m.Body.Digest[31]++ },
		func(m *api.Message) { m.Body.Request.Tag[0]++ },
		func(m *api.Message) { m.Body.Request.Tag[31]++ },
		func(m *api.Message) { m.Body.Q = m.Body.Q[:1] },
		func(m *api.Message) { m.Body.Q = append(slices.Clone(m.Body.Q[:1]), api.Pair{Replica: 10, Number: 1}) },
		func(m *api.Message) { m.Body.Q = append(slices.Clone(m.Body.Q[:1]), api.Pair{Replica: 11, Number: 2}) },
		func(m *api.Message) { m.Body.Kind = api.KChange + api.KEnter - m.Body.Kind },
	}
	for i := range api.MaxReplicas {
		if i != 1 {
			out = append(out, func(m *api.Message) { m.Deps[i] = 77 })
		}
	}
	for _, turn := range requestTurns() {
		out = append(out, func(m *api.Message) { turn(&m.Body.Request) })
	}
	return out
}

// P8.4: with any of its fields turned a message has other bytes.
func TestTurned(t *testing.T) {
	turned := make([]bool, len(messageTurns()))
	for _, x := range bodies() {
		m := saying(x)
		seen := map[string]int{string(message.Bytes(m)): -1}
		for i, turn := range messageTurns() {
			y := m
			if (i == 8 || i == 9 || i == 10) && x.Kind != api.KNewView {
				continue
			}
			if turn(&y); !message.May(y) || reflect.DeepEqual(y, m) {
				continue
			}
			b := string(message.Bytes(y))
			if j, again := seen[b]; again {
				t.Errorf("P8.4: the turns %d and %d of Kind %d have the same bytes", i, j, x.Kind)
			}
			seen[b], turned[i] = i, true
			if message.Right(y) {
				t.Errorf("P8.4: the turn %d of Kind %d has the same tag", i, x.Kind)
			}
		}
		y := m
		if y.Tag[5]++; bytes.Equal(message.Put(m), message.Put(y)) || !bytes.Equal(message.Bytes(m), message.Bytes(y)) {
			t.Errorf("P8.4: the tag of Kind %d", x.Kind)
		}
	}
	if i := slices.Index(turned, false); i >= 0 {
		t.Errorf("the turn %d is of no message", i)
	}
}

// P8.1, R3: what is answered is new memory, and what is handed in is not changed.
func TestMemory(t *testing.T) {
	for _, x := range bodies() {
		m := saying(x)
		q := slices.Clone(x.Q)
		room := []byte(all(m) + "behind it")
		b := room[:len(room)-9]
		got, _ := message.Get(b)
		of, _ := message.Of(2, 3, b[8:len(b)-32], m.Tag)
		if string(room) != all(m)+"behind it" {
			t.Error("R3: the bytes are changed")
		}
		for i := range room {
			room[i] ^= 0xff
		}
		if !reflect.DeepEqual(got, m) || !reflect.DeepEqual(of, m) {
			t.Error("R3: what was got hangs on the bytes")
		}
		put, again := message.Put(m), message.Put(m)
		told, other := message.Bytes(m), message.Bytes(m)
		for _, l := range [][]byte{again, other} {
			for i := range l {
				l[i] ^= 0xff
			}
			_ = append(l[:0], "all of it anew"...)
		}
		if string(put) != all(m) || string(told) != says(m) || !slices.Equal(m.Body.Q, q) {
			t.Error("R3: what was put hangs together")
		}
		for i := range got.Body.Q {
			got.Body.Q[i] = api.Pair{}
		}
		if !slices.Equal(of.Body.Q, q) || !slices.Equal(m.Body.Q, q) {
			t.Error("R3: pairs hang together")
		}
	}
	q := pairs(3)
	m := saying(api.Body{Kind: api.KNewView, View: 1, Q: q[:2]})
	bears(t, m)
	if !slices.Equal(q, pairs(3)) {
		t.Error("R3: the room behind Q is changed")
	}
}
