package message_test

import (
	"encoding/binary"
	"math/rand"
	"reflect"
	"strings"
	"testing"

	"ratchet/api"
	"ratchet/message"
	"ratchet/tag"
)

// word, text: a number and a text, as the words of octet's chapter say it.
func word(n uint64) string { return string(binary.BigEndian.AppendUint64(nil, n)) }

func text(s string) string {
	return string(binary.BigEndian.AppendUint16(nil, uint16(len(s)))) + s
}

// asks: a request's bytes, as the chapter's words say it.
func asks(r api.Request) string {
	o := r.Op
	return string([]byte{byte(r.Client), o.Kind}) + word(r.Time) + word(o.Amount) + text(o.Key) + text(o.Value) + text(o.Old) + text(o.To)
}

// says: a message's bytes, without Number and Tag, as the chapter's words say it.
func says(m api.Message) string {
	var s strings.Builder
	s.WriteByte(byte(m.Origin))
	for _, n := range m.Deps {
		s.WriteString(word(n))
	}
	x := m.Body
	s.WriteByte(x.Kind)
	switch x.Kind {
	case 1:
		s.WriteString(word(x.View) + asks(x.Request) + string(x.Request.Tag[:]))
	case 2:
		s.WriteString(word(x.View) + word(x.K))
	case 3, 5:
		s.WriteString(word(x.View))
	case 4:
		s.WriteString(word(x.View))
		s.WriteByte(byte(len(x.Q)))
		for _, p := range x.Q {
			s.WriteString(string([]byte{byte(p.Replica)}) + word(p.Number))
		}
	case 6:
		s.WriteString(word(x.K) + string(x.Digest[:]))
	}
	return s.String()
}

// all: a message's bytes, as the chapter's words say it.
func all(m api.Message) string { return word(m.Number) + says(m) + string(m.Tag[:]) }

// within: is a number?
func within(n, low, high uint64) bool { return low <= n && n <= high }

// askable: may a request be, as the chapter's words say it?
func askable(r api.Request) bool {
	o := r.Op
	return r.Client > 0 && r.Client < 9 && within(r.Time, 1, 1<<62) && len(o.Key) < 33 && len(o.To) < 33 && len(o.Value) < 129 && len(o.Old) < 129
}

// sayable: may a message be, as the chapter's words say it?
func sayable(m api.Message) bool {
	if m.Origin < 1 || m.Origin > 11 || !within(m.Number, 1, 1<<16) || m.Deps[m.Origin-1] != m.Number-1 {
		return false
	}
	for _, n := range m.Deps {
		if n > 1<<16 {
			return false
		}
	}
	x := m.Body
	noView, noK, noQ := x.View == 0, x.K == 0, len(x.Q) == 0
	noRequest, noDigest := x.Request == (api.Request{}), x.Digest == [32]byte{}
	later, place := within(x.View, 1, 1<<30-1), within(x.K, 1, 1<<62)
	switch x.Kind {
	case 1:
		return (later || noView) && noK && noQ && noDigest && askable(x.Request)
	case 2:
		return (later || noView) && place && noQ && noDigest && noRequest
	case 3, 5:
		return later && noK && noQ && noDigest && noRequest
	case 4:
		return later && noK && !noQ && rise(x.Q) && noDigest && noRequest
	case 6:
		return noView && place && noQ && noRequest
	}
	return false
}

// rise: are there pairs that rise, of replicas and of numbers?
func rise(q []api.Pair) bool {
	for i, p := range q {
		if p.Replica < 1 || p.Replica > 11 || i > 0 && p.Replica <= q[i-1].Replica || !within(p.Number, 1, 1<<16) {
			return false
		}
	}
	return true
}

// edge: a number, mostly at an edge of some limit.
func edge(r *rand.Rand, edges ...uint64) uint64 {
	if r.Intn(4) == 0 {
		return r.Uint64() >> r.Intn(64)
	}
	return edges[r.Intn(len(edges))]
}

// anyText: a text of most bytes, or of one more, or of fewer.
func anyText(r *rand.Rand, most int) string {
	n := []int{0, 1, most, most, r.Intn(most), r.Intn(most)}[r.Intn(6)]
	if r.Intn(30) == 0 {
		n = most + 1
	}
	b := make([]byte, n)
	r.Read(b)
	return string(b)
}

// anyRequest: one that may be, mostly.
func anyRequest(r *rand.Rand) api.Request {
	x := api.Request{Client: 1 + r.Intn(8), Time: 1 + r.Uint64()>>2, Op: api.Op{Kind: uint8(r.Intn(256)), Amount: r.Uint64() >> r.Intn(64)}}
	x.Op.Key, x.Op.To = anyText(r, 32), anyText(r, 32)
	x.Op.Value, x.Op.Old = anyText(r, 128), anyText(r, 128)
	r.Read(x.Tag[:])
	switch r.Intn(20) {
	case 0:
		x.Client = []int{-1, 0, 1, 8, 9, 256 + 1}[r.Intn(6)]
	case 1:
		x.Time = edge(r, 0, 1, 1<<62, 1<<62+1)
	case 2:
		return api.Request{}
	}
	return x
}

// anyPairs: some that may be, mostly.
func anyPairs(r *rand.Rand) []api.Pair {
	var q []api.Pair
	for i := 1; i <= 11; i++ {
		if r.Intn(2) == 0 {
			q = append(q, api.Pair{Replica: i, Number: 1 + r.Uint64()%(1<<16)})
		}
	}
	if len(q) > 1 && r.Intn(8) == 0 {
		q[r.Intn(len(q))].Replica = r.Intn(14) - 1
	}
	if len(q) > 1 && r.Intn(8) == 0 {
		q[r.Intn(len(q))].Number = edge(r, 0, 1, 1<<16, 1<<16+1)
	}
	return q
}

// anyBody: one that may be, mostly.
func anyBody(r *rand.Rand) api.Body {
	x := api.Body{Kind: uint8(1 + r.Intn(6))}
	if x.Kind != 6 {
		x.View = 1 + r.Uint64()%(1<<30-1)
	}
	switch x.Kind {
	case 1:
		x.Request = anyRequest(r)
	case 2, 6:
		x.K = 1 + r.Uint64()>>2
	case 4:
		x.Q = anyPairs(r)
	}
	if x.Kind == 6 {
		r.Read(x.Digest[:])
	}
	switch r.Intn(24) {
	case 0:
		x.Kind = uint8(r.Intn(9))
	case 1:
		x.View = edge(r, 0, 1, 1<<30-1, 1<<30)
	case 2:
		x.K = edge(r, 0, 1, 1<<62, 1<<62+1)
	case 3:
		x.Digest[r.Intn(32)]++
	case 4:
		x.Request = anyRequest(r)
	case 5:
		x.Q = anyPairs(r)
	}
	return x
}

// anyMessage: one that may be, mostly.
func anyMessage(r *rand.Rand) api.Message {
	m := api.Message{Origin: 1 + r.Intn(11), Number: 1 + r.Uint64()%(1<<16), Body: anyBody(r)}
	for i := range m.Deps {
		m.Deps[i] = r.Uint64() % (1<<16 + 1)
	}
	m.Deps[m.Origin-1] = m.Number - 1
	r.Read(m.Tag[:])
	switch r.Intn(30) {
	case 0:
		m.Origin = r.Intn(15) - 2
	case 1:
		m.Number = edge(r, 0, 1, 1<<16, 1<<16+1)
	case 2:
		m.Deps[r.Intn(11)] = edge(r, 0, 1, 1<<16, 1<<16+1)
	}
	return m
}

// P8.1, P8.2, P8.3: what may be, and all bytes, are what the chapter's words say.
func TestAsThePlainWords(t *testing.T) {
	r := rand.New(rand.NewSource(8))
	may, not := 0, 0
	for range 6000 {
		m := anyMessage(r)
		if !sayable(m) {
			mustNot(t, m)
			not++
			continue
		}
		bears(t, m)
		may++
	}
	if may < 2000 || not < 800 {
		t.Errorf("only %d that may be, and %d that may not", may, not)
	}
}

// bears fails unless the message may be, and is put and got as the words say.
func bears(t *testing.T, m api.Message) {
	t.Helper()
	if !message.May(m) {
		t.Fatalf("P8.1: May of %+v is false", m)
	}
	if got := string(message.Bytes(m)); got != says(m) || len(got) > api.MaxBody {
		t.Fatalf("P8.1: Bytes of %+v = %x and not %x", m, got, says(m))
	}
	if got := string(message.Put(m)); got != all(m) {
		t.Fatalf("P8.1: Put of %+v = %x and not %x", m, got, all(m))
	}
	got, e := message.Get([]byte(all(m)))
	if e != api.OK || !reflect.DeepEqual(got, m) {
		t.Fatalf("P8.1: Get = %+v, %d and not %+v", got, e, m)
	}
	got, e = message.Of(m.Origin, m.Number, []byte(says(m)), m.Tag)
	if e != api.OK || !reflect.DeepEqual(got, m) {
		t.Fatalf("P8.1: Of = %+v, %d and not %+v", got, e, m)
	}
	right := tag.Numbered(m.Origin, m.Number, []byte(says(m)))
	if message.Right(m) != (m.Tag == right) {
		t.Fatalf("P8.2: Right of %+v", m)
	}
	if m.Tag = right; !message.Right(m) {
		t.Fatalf("P8.2: not Right: %+v", m)
	}
}

// mustNot fails if there is anything of a message that may not be, by its fields or by the bytes that it would have.
func mustNot(t *testing.T, m api.Message) {
	t.Helper()
	if message.May(m) || len(message.Bytes(m)) != 0 || len(message.Put(m)) != 0 {
		t.Fatalf("P8.1: it may be: %+v", m)
	}
	m.Tag = tag.Numbered(m.Origin, m.Number, []byte(says(m)))
	if message.Right(m) {
		t.Fatalf("P8.2: it is right: %+v", m)
	}
	// Fields that a byte, or the Kind, does not hold are lost in the bytes: then what is got is another message, and may be.
	if got, e := message.Get([]byte(all(m))); e == api.OK && reflect.DeepEqual(got, m) || e == api.OK && !sayable(got) {
		t.Fatalf("P8.1: Get = %+v", got)
	}
	if got, e := message.Of(m.Origin, m.Number, []byte(says(m)), m.Tag); e == api.OK && reflect.DeepEqual(got, m) || e == api.OK && !sayable(got) {
		t.Fatalf("P8.1: Of = %+v", got)
	}
}

// P8.3: requests, as the chapter's words say it.
func TestRequestsAsThePlainWords(t *testing.T) {
	r := rand.New(rand.NewSource(9))
	for range 3000 {
		x := anyRequest(r)
		want := x
		if askable(x) {
			want.Tag = tag.Of(tag.Client(x.Client), []byte(asks(x)))
		}
		got := message.Signed(x)
		if message.Asked(x) != askable(x) || got != want {
			t.Fatalf("P8.3: Signed of %+v = %+v", x, got)
		}
		if message.Authentic(got) != askable(x) || message.Authentic(x) != (askable(x) && x.Tag == want.Tag) {
			t.Fatalf("P8.3: Authentic of %+v", x)
		}
	}
}

// P8.1, P8.4: bytes that were turned, cut or made longer anywhere are no message's, or one's whose Put they are.
func TestBytesAreAMessagesOrNone(t *testing.T) {
	r := rand.New(rand.NewSource(10))
	for range 4000 {
		m := anyMessage(r)
		b := []byte(all(m))
		for range r.Intn(3) {
			b[r.Intn(len(b))] ^= 1 << r.Intn(8)
		}
		switch r.Intn(8) {
		case 0:
			b = b[:r.Intn(len(b))]
		case 1:
			b = append(b, make([]byte, 1+r.Intn(40))...)
		case 2:
			b = b[r.Intn(len(b)):]
		}
		got, e := message.Get(b)
		if e == api.OK && (!sayable(got) || all(got) != string(b)) {
			t.Fatalf("P8.4: Get of %x = %+v", b, got)
		}
		if e != api.OK && (e != api.ErrBytes || !reflect.DeepEqual(got, api.Message{})) {
			t.Fatalf("P8.1: Get of %x = %+v, %d", b, got, e)
		}
	}
}
