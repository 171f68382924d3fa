package state_test

import (
	"bytes"
	"encoding/binary"
	"math/rand"
	"slices"
	"strings"
	"testing"

	"ratchet/api"
	"ratchet/ledger"
	"ratchet/session"
	"ratchet/sha"
	"ratchet/state"
)

// plain is what a state has, as the chapter's words say it.
type plain struct {
	count uint64
	lasts []api.Last
	items []api.Item
}

// word, text: a number and a text, as the chapter's words say them.
func word(n uint64) string { return string(binary.BigEndian.AppendUint64(nil, n)) }

func text(s string) string { return word(uint64(len(s))) + s }

// bytes of it, as the chapter's words say them.
func (p plain) bytes() []byte {
	var s strings.Builder
	s.WriteString(word(p.count))
	for _, l := range p.lasts {
		s.WriteString(word(l.Time) + word(uint64(l.Reply.Err)) + text(l.Reply.Value))
	}
	s.WriteString(word(uint64(len(p.items))))
	for _, i := range p.items {
		s.WriteString(text(i.Key) + text(i.Value))
	}
	return []byte(s.String())
}

// cutting is bytes of which numbers and texts are cut; short, once one did not stand there.
type cutting struct {
	b     []byte
	short bool
}

func (c *cutting) word() uint64 {
	if len(c.b) < 8 || c.short {
		c.short = true
		return 0
	}
	n := binary.BigEndian.Uint64(c.b)
	c.b = c.b[8:]
	return n
}

func (c *cutting) text() string {
	n := c.word()
	if c.short || n > uint64(len(c.b)) {
		c.short = true
		return ""
	}
	s := string(c.b[:n])
	c.b = c.b[n:]
	return s
}

// plainOf: what the bytes say, and whether they are those of a state.
func plainOf(b []byte) (plain, bool) {
	c := &cutting{b: b}
	p := plain{count: c.word()}
	good := true
	for range 8 {
		time, e, value := c.word(), c.word(), c.text()
		good = good && e < 1<<31 && (time > 0 || e == 0 && value == "")
		p.lasts = append(p.lasts, last(time, api.Errno(e&(1<<31-1)), value))
	}
	many := c.word()
	for i := uint64(0); i < many && !c.short; i++ {
		p.items = append(p.items, api.Item{Key: c.text(), Value: c.text()})
	}
	for i, x := range p.items {
		good = good && len(x.Key) > 0 && len(x.Key) < 33 && len(x.Value) < 129
		good = good && (i == 0 || bytes.Compare([]byte(p.items[i-1].Key), []byte(x.Key)) < 0)
	}
	return p, good && !c.short && len(c.b) == 0 && many < 65
}

// is fails unless the state tells all of that, by each of its calls.
func is(t *testing.T, s *state.State, p plain) {
	t.Helper()
	if s.Count() != p.count {
		t.Errorf("P11.1: Count = %d and not %d", s.Count(), p.count)
	}
	for i, want := range p.lasts {
		if got := s.Last(i + 1); got != want {
			t.Errorf("P11.1: Last(%d) = %+v and not %+v", i+1, got, want)
		}
	}
	for _, c := range []int{0, -1, 9, 1 << 62, -1 << 63, 1<<8 + 1, 1<<32 + 1} {
		if got := s.Last(c); got != (api.Last{}) {
			t.Errorf("P11.1: Last(%d) = %+v", c, got)
		}
	}
	if got := s.Items(); !slices.Equal(got, p.items) {
		t.Errorf("P11.1: Items = %+v and not %+v", got, p.items)
	}
	if got := s.Bytes(); !bytes.Equal(got, p.bytes()) {
		t.Errorf("P11.1: Bytes = %x and not %x", got, p.bytes())
	}
	if got, want := s.Digest(), sha.Sum(p.bytes()); got != want {
		t.Errorf("P11.1: Digest = %x and not %x", got, want)
	}
}

// some: one of these.
func some[T any](r *rand.Rand, l ...T) T { return l[r.Intn(len(l))] }

// anyOp: few keys, so that they meet; now and then one that may not be.
func anyOp(r *rand.Rand) api.Op {
	k, to := some(r, "a", "b", "c", "\xff", "ab"), some(r, "a", "b", "c", strings.Repeat("k", 32))
	return some(r, get(k), put(k, some(r, "3", "5", "x", "")), put(k, some(r, "9", strings.Repeat("1", 128))), move(k, to, uint64(r.Intn(6))),
		remove(k), swap(k, "3", "4"), api.Op{}, put("", "1"))
}

// anyRequest: of a client, at a time near those of the others; now and then of none, or far off.
func anyRequest(r *rand.Rand) api.Request {
	q := asked(1+r.Intn(8), uint64(1+r.Intn(40)), anyOp(r))
	if r.Intn(12) == 0 {
		q.Client = some(r, 0, -1, 9, 8, 1, 1<<40)
	}
	if r.Intn(40) == 0 {
		q.Time = some[uint64](r, 0, 0, 0, 1, 1<<63)
	}
	r.Read(q.Tag[:])
	return q
}

// P11.1, P11.2, P11.3: any requests, each held against a table and a ledger of its own; and Of of Bytes goes on as the state does.
func TestAnyRequests(t *testing.T) {
	var met [2]int // done, or not
	for seed := range int64(60) {
		r := rand.New(rand.NewSource(seed))
		s, twin, table, l := state.New(), state.New(), session.New(), ledger.New()
		for n := range uint64(120) {
			q := anyRequest(r)
			want, done := table.Do(l, q)
			if done {
				met[0]++
			} else {
				met[1]++
			}
			told(t, s, q, want, done)
			told(t, twin, q, want, done)
			is(t, s, plain{n + 1, table.List(), l.List()})
			if r.Intn(4) == 0 {
				s = of(t, s.Bytes())
			}
			if s.Digest() != twin.Digest() {
				t.Fatalf("P11.3: seed %d: behind %+v the digests differ", seed, q)
			}
			if t.Failed() {
				t.Fatalf("seed %d: behind %+v", seed, q)
			}
		}
	}
	if slices.Min(met[:]) < 1000 {
		t.Errorf("too few of some answer: %v", met)
	}
}

// anyPlain: what a state has, mostly.
func anyPlain(r *rand.Rand) plain {
	p := plain{count: some[uint64](r, 0, 1, 2, 900, 1<<64-1), lasts: make([]api.Last, 8)}
	for i := range p.lasts {
		if r.Intn(3) > 0 {
			p.lasts[i] = last(some[uint64](r, 1, 2, 1<<64-1), some[api.Errno](r, 0, 0, 1, 4, 14, 1<<31-1), some(r, "", "7", "ab"))
		}
		if r.Intn(60) == 0 {
			p.lasts[i].Time = 0
		}
		if r.Intn(150) == 0 {
			p.lasts[i].Reply.Err = some[api.Errno](r, 1<<31, 1<<32, -1)
		}
	}
	k := 0
	for range some(r, 0, 0, 1, 2, 3, 5, 63, 64, 65) {
		k += some(r, 1, 2, 3)
		p.items = append(p.items, api.Item{Key: strings.Repeat("~", k/200) + string(rune(33+k%200)), Value: some(r, "", "1", "x")})
	}
	if len(p.items) > 0 && r.Intn(6) == 0 {
		p.items[r.Intn(len(p.items))] = some(r, api.Item{}, api.Item{Key: "a"}, api.Item{Key: strings.Repeat("k", 33)}, api.Item{Key: "\xff", Value: strings.Repeat("v", 129)})
	}
	return p
}

// bent: bytes of which something is turned, or not.
func bent(r *rand.Rand, b []byte) []byte {
	b = slices.Clone(b)
	at := r.Intn(len(b))
	switch r.Intn(8) {
	case 0:
		b[at] ^= 1 << r.Intn(8)
	case 1:
		b[at] = some[byte](r, 0, 1, 255)
	case 2:
		return b[:at]
	case 3:
		return slices.Delete(b, at, at+1)
	case 4:
		return slices.Insert(b, at, some[byte](r, 0, 1, 255))
	case 5:
		word := min(at/8*8, len(b)-8)
		binary.BigEndian.PutUint64(b[word:], some[uint64](r, 0, 1, 64, 65, 1<<31, 1<<63, 1<<64-8, 1<<64-1))
	}
	return b
}

// P11.2: any bytes, near those of a state, held against the chapter's words.
func TestAnyBytes(t *testing.T) {
	met := map[bool]int{}
	r := rand.New(rand.NewSource(11))
	for range 20000 {
		b := bent(r, anyPlain(r).bytes())
		p, good := plainOf(b)
		met[good]++
		s, e := state.Of(b)
		if good != (e == api.OK) || good != (s != nil) || !good && e != api.ErrBytes {
			t.Fatalf("P11.2: Of(%x) = %v, %d", b, s, e)
		}
		if good && !bytes.Equal(p.bytes(), b) {
			t.Fatalf("P11.2: the plain reading is wrong of %x", b)
		}
		if good {
			is(t, s, p)
		}
		if t.Failed() {
			t.Fatalf("of %x", b)
		}
	}
	if min(met[true], met[false]) < 4000 {
		t.Errorf("too few of some answer: %v", met)
	}
}
