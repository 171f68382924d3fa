package state_test

import (
	"bytes"
	"encoding/hex"
	"fmt"
	"slices"
	"strings"
	"testing"

	"ratchet/api"
	"ratchet/sha"
	"ratchet/state"
)

const greatest = 1<<64 - 1 // the greatest number

// The operations, with what their Kinds have.
func get(k string) api.Op          { return api.Op{Kind: api.OpGet, Key: k} }
func put(k, v string) api.Op       { return api.Op{Kind: api.OpPut, Key: k, Value: v} }
func remove(k string) api.Op       { return api.Op{Kind: api.OpDelete, Key: k} }
func swap(k, old, v string) api.Op { return api.Op{Kind: api.OpSwap, Key: k, Old: old, Value: v} }
func move(k, to string, n uint64) api.Op {
	return api.Op{Kind: api.OpMove, Key: k, To: to, Amount: n}
}

// asked: a request of a client, at a time.
func asked(client int, time uint64, o api.Op) api.Request {
	return api.Request{Client: client, Time: time, Op: o}
}

// refused: an answer that is an error.
func refused(e api.Errno) api.Reply { return api.Reply{Err: e} }

// last: what a client was answered last.
func last(time uint64, e api.Errno, value string) api.Last {
	return api.Last{Time: time, Reply: api.Reply{Err: e, Value: value}}
}

// row: entries for all clients, of which those named have these.
func row(named map[int]api.Last) []api.Last {
	l := make([]api.Last, 8)
	for c, x := range named {
		l[c-1] = x
	}
	return l
}

// items: keys and values by turns.
func items(l ...string) []api.Item {
	var out []api.Item
	for i := 0; i < len(l); i += 2 {
		out = append(out, api.Item{Key: l[i], Value: l[i+1]})
	}
	return out
}

// many: n items whose keys rise.
func many(n int) []api.Item {
	var out []api.Item
	for i := range n {
		out = append(out, api.Item{Key: fmt.Sprintf("k%06d", i), Value: "10"})
	}
	return out
}

// full: as much as a state has, no two clients alike.
func full() plain {
	p := plain{count: 0x0102030405060708, lasts: row(nil), items: items("a", "10", "ab", "", "b", "x", "\xff", "\x00\x01")}
	for i := range p.lasts {
		p.lasts[i] = last(uint64(10+i), api.Errno(i), strings.Repeat("v", i))
	}
	return p
}

// of: the state of these bytes.
func of(t *testing.T, b []byte) *state.State {
	t.Helper()
	s, e := state.Of(b)
	if e != api.OK || s == nil {
		t.Fatalf("P11.2: Of(%x) = %d", b, e)
	}
	return s
}

// none fails unless the bytes are those of no state.
func none(t *testing.T, name string, b []byte) {
	t.Helper()
	if s, e := state.Of(b); s != nil || e != api.ErrBytes {
		t.Errorf("P11.2: %s: Of = %v, %d", name, s, e)
	}
}

// told fails unless a request is answered so.
func told(t *testing.T, s *state.State, r api.Request, want api.Reply, done bool) {
	t.Helper()
	if x, now := s.Do(r); x != want || now != done {
		t.Errorf("P11.1: Do(%+v) = %+v, %v and not %+v, %v", r, x, now, want, done)
	}
}

// P11.1: a new state has nothing, as its example says, and each is one of its own.
func TestNew(t *testing.T) {
	s, u := state.New(), state.New()
	if s == nil {
		t.Fatal("P11.1: New is none")
	}
	if b := s.Bytes(); !bytes.Equal(b, make([]byte, 8+8*24+8)) {
		t.Errorf("P11.1: Bytes = %x", b)
	}
	is(t, s, plain{0, row(nil), nil})
	told(t, s, asked(1, 1, put("a", "1")), api.Reply{}, true)
	is(t, s, plain{1, row(map[int]api.Last{1: last(1, 0, "")}), items("a", "1")})
	is(t, u, plain{0, row(nil), nil})
}

// P11.1: what stands in the bytes behind each kind of operation, and how many bytes there are.
func TestKinds(t *testing.T) {
	s := state.New()
	for n, u := range []struct {
		client int
		o      api.Op
		want   api.Reply
		items  []api.Item
		more   int // bytes than those of a new state
	}{
		{1, get("a"), refused(api.ErrNone), nil, 0},
		{1, put("a", "10"), api.Reply{}, items("a", "10"), 19},
		{2, get("a"), api.Reply{Value: "10"}, items("a", "10"), 21},
		{3, move("a", "bcd", 4), api.Reply{Value: "6"}, items("a", "6", "bcd", "4"), 41},
		{3, move("bcd", "a", 5), api.Reply{Err: api.ErrFunds, Value: "4"}, items("a", "6", "bcd", "4"), 41},
		{8, swap("a", "6", "word"), api.Reply{}, items("a", "word", "bcd", "4"), 44},
		{8, swap("a", "6", "x"), api.Reply{Err: api.ErrOther, Value: "word"}, items("a", "word", "bcd", "4"), 48},
		{7, remove("bcd"), api.Reply{Value: "4"}, items("a", "word"), 29},
		{7, remove("bcd"), refused(api.ErrNone), items("a", "word"), 28},
		{6, put("", "x"), refused(api.ErrArg), items("a", "word"), 28},
		{5, put("a", ""), api.Reply{}, items("a", ""), 24},
		{4, api.Op{}, refused(api.ErrArg), items("a", ""), 24},
		{2, remove("a"), api.Reply{}, nil, 5},
	} {
		p := plain{uint64(n) + 1, nil, u.items}
		for c := range 8 {
			p.lasts = append(p.lasts, s.Last(c+1))
		}
		p.lasts[u.client-1] = api.Last{Time: uint64(n) + 1, Reply: u.want}
		told(t, s, asked(u.client, uint64(n)+1, u.o), u.want, true)
		is(t, s, p)
		if got := len(s.Bytes()) - 208; got != u.more {
			t.Errorf("P11.1: behind %+v there are %d bytes more and not %d", u.o, got, u.more)
		}
	}
}

// P11.1: the bytes, each by itself.
func TestBytes(t *testing.T) {
	s := state.New()
	s.Do(asked(2, 0x0304, put("ab", "12")))
	s.Do(asked(2, 0x0305, move("ab", "c", 13)))
	s.Do(asked(9, 1, get("ab")))
	none, zero := strings.Repeat("00", 24), "00000000000000"
	want := zero + "03" + none + // three were handed in; client 1
		"0000000000000305" + zero + "0e" + zero + "02" + "3132" + // client 2: ErrFunds, 12
		strings.Repeat(none, 6) + zero + "01" + // the others; one item
		zero + "02" + "6162" + zero + "02" + "3132"
	if got := hex.EncodeToString(s.Bytes()); got != want {
		t.Errorf("P11.1: Bytes = %s and not %s", got, want)
	}
}

// P11.1: Count tells all requests that were handed in, whatever became of them; Do is session.Do.
func TestCount(t *testing.T) {
	s := state.New()
	has := items("a", "1")
	for n, u := range []struct {
		name string
		r    api.Request
		want api.Reply
		done bool
		last api.Last // of client 1, behind it
	}{
		{"done", asked(1, 5, put("a", "1")), api.Reply{}, true, last(5, 0, "")},
		{"the same again", asked(1, 5, put("a", "1")), api.Reply{}, false, last(5, 0, "")},
		{"another one of that time", asked(1, 5, put("a", "2")), api.Reply{}, false, last(5, 0, "")},
		{"one of a time below", asked(1, 4, put("a", "2")), refused(api.ErrAgain), false, last(5, 0, "")},
		{"of time 0", asked(1, 0, put("a", "2")), refused(api.ErrArg), false, last(5, 0, "")},
		{"of no client", asked(0, 9, put("a", "2")), refused(api.ErrArg), false, last(5, 0, "")},
		{"of a client below all", asked(-1<<63, 9, put("a", "2")), refused(api.ErrArg), false, last(5, 0, "")},
		{"of one client more", asked(9, 9, put("a", "2")), refused(api.ErrArg), false, last(5, 0, "")},
		{"of nothing", api.Request{}, refused(api.ErrArg), false, last(5, 0, "")},
		{"refused by the ledger", asked(1, 6, get("b")), refused(api.ErrNone), true, last(6, api.ErrNone, "")},
		{"refused again", asked(1, 6, get("a")), refused(api.ErrNone), false, last(6, api.ErrNone, "")},
		{"of no Kind", asked(1, 7, api.Op{Kind: 6, Key: "a"}), refused(api.ErrArg), true, last(7, api.ErrArg, "")},
		{"of the greatest time", asked(1, greatest, get("a")), api.Reply{Value: "1"}, true, last(greatest, 0, "1")},
		{"of a tag", api.Request{Client: 1, Time: 8, Op: get("a"), Tag: [32]byte{7}}, refused(api.ErrAgain), false, last(greatest, 0, "1")},
	} {
		told(t, s, u.r, u.want, u.done)
		is(t, s, plain{uint64(n) + 1, row(map[int]api.Last{1: u.last}), has})
		if t.Failed() {
			t.Fatalf("%s", u.name)
		}
	}
}

// P11.1: Count goes up to the greatest number.
func TestCountMost(t *testing.T) {
	for _, n := range []uint64{0xff, 0xffff, 1<<32 - 1, 1<<56 - 1, greatest - 1} {
		s := of(t, plain{n, row(nil), nil}.bytes())
		told(t, s, api.Request{}, refused(api.ErrArg), false)
		is(t, s, plain{n + 1, row(nil), nil})
	}
}

// P11.1: Digest is that of the bytes, as it is published.
func TestDigest(t *testing.T) {
	s := state.New()
	for _, want := range []string{
		"46f531b7ea0428fbf2c3ca2b60e8dc33d6bbfa000e0fd1b489c5e39140a47006",
		"1309407f10a617ae6d63213e4419a045d83d773ec3d6606ceb00029addd19161",
	} {
		d := s.Digest()
		if got := hex.EncodeToString(d[:]); got != want || d != sha.Sum(s.Bytes()) {
			t.Errorf("P11.1: Digest = %s and not %s", got, want)
		}
		s.Do(asked(1, 1, put("a", "1")))
	}
	// The row of bytes crosses blocks of the digest at all lengths.
	for n := range 129 {
		p := full()
		p.items = items("a", strings.Repeat("v", n))
		is(t, of(t, p.bytes()), p)
	}
	one, two := full(), full()
	two.count++
	if of(t, one.bytes()).Digest() == of(t, two.bytes()).Digest() {
		t.Error("P11.1: of other counts the digests are the same")
	}
}

// P11.2: what a state may have, at all edges.
func TestOf(t *testing.T) {
	k, v := strings.Repeat("k", 32), strings.Repeat("v", 128)
	is(t, of(t, full().bytes()), full())
	for _, l := range [][]api.Item{
		nil, items("a", ""), items("\x00", "", "\x00\x00", "x"), items("B", "1", "a", "1", "ab", "1", "b", "1"), items("\x7f", "", "\x80", "", "\xff", ""),
		items(k, v), items(k[1:], v, k, v[1:]), many(1), many(63), many(64),
	} {
		p := full()
		p.items = l
		is(t, of(t, p.bytes()), p)
	}
	for _, x := range []api.Last{
		{}, last(1, 0, ""), last(greatest, 0, ""), last(1<<63, 0, "x"), last(1, 1<<31-1, ""), last(1, 1<<31-1, "x"), last(1, 16, "x"), last(1, 0, "\x00"),
		last(1, 0, v), last(1, 0, v+"v"), last(1, 0, strings.Repeat("v", 1<<17)),
	} {
		for c := range 8 {
			p := full()
			p.lasts[c] = x
			is(t, of(t, p.bytes()), p)
		}
	}
	for _, n := range []uint64{0, 1, 1 << 31, 1 << 62, 1 << 63, greatest} {
		p := full()
		p.count = n
		is(t, of(t, p.bytes()), p)
	}
}

// P11.2: bytes that are no state's, since they have too few or too many.
func TestOfCut(t *testing.T) {
	none(t, "nil", nil)
	none(t, "none", []byte{})
	for _, p := range []plain{{0, row(nil), nil}, full()} {
		b := p.bytes()
		for n := range b {
			none(t, "cut at "+fmt.Sprint(n), b[:n])
			none(t, "cut at the beginning", b[n+1:])
		}
		for _, x := range []byte{0, 1, 255} {
			none(t, "one more", append(slices.Clone(b), x))
			none(t, "one more ahead", append([]byte{x}, b...))
		}
		none(t, "eight more", append(slices.Clone(b), make([]byte, 8)...))
		none(t, "an item more", append(slices.Clone(b), word(0)+word(0)...))
		none(t, "twice", append(slices.Clone(b), b...))
		is(t, of(t, b), p)
	}
	// What is cut has room behind it where the rest stands still.
	b := full().bytes()
	none(t, "cut, with room", b[:len(b)-1:len(b)])
}

// lengths: where the lengths of all texts and the number of items stand in the bytes.
func (p plain) lengths() []int {
	at := []int{}
	here := 8
	for _, l := range p.lasts {
		at = append(at, here+16)
		here += 24 + len(l.Reply.Value)
	}
	at = append(at, here)
	here += 8
	for _, i := range p.items {
		at = append(at, here, here+8+len(i.Key))
		here += 16 + len(i.Key) + len(i.Value)
	}
	return at
}

// P11.2: lengths that are greater than what is left, up to the greatest; and a length of one less.
func TestOfLengths(t *testing.T) {
	for _, p := range []plain{{0, row(nil), nil}, {7, row(nil), items("a", "1")}, full()} {
		b := p.bytes()
		for _, at := range p.lengths() {
			left := uint64(len(b) - at - 8)
			for _, n := range []uint64{left + 1, left + 2, left + 256, 1 << 16, 1<<31 - 1, 1 << 31, 1 << 32, 1<<32 + 1, 1<<63 - 1, 1 << 63, 1<<63 + 1, greatest - 7, greatest - uint64(at), greatest - uint64(at) - 7, greatest - 1, greatest} {
				turned := slices.Clone(b)
				copy(turned[at:], word(n))
				none(t, fmt.Sprintf("the length at %d is %d", at, n), turned)
			}
			for i := range 7 { // none of its bytes is let go
				turned := slices.Clone(b)
				turned[at+i] = 1
				none(t, fmt.Sprintf("a byte more at %d", at+i), turned)
			}
			if n := b[at+7]; n > 0 {
				turned := slices.Clone(b)
				turned[at+7] = n - 1
				none(t, fmt.Sprintf("the length at %d is one less", at), turned)
			}
		}
	}
	// A text that goes up to the end: nothing is left for what is behind it.
	b := plain{0, row(map[int]api.Last{1: last(1, 0, "x")}), nil}.bytes()
	copy(b[24:], word(uint64(len(b)-32)))
	none(t, "all is one text", b)
}

// P11.2: an Err is a number from 0 to 2^31 - 1.
func TestOfErr(t *testing.T) {
	for c := range 8 {
		for n, may := range map[uint64]bool{0: true, 1: true, 15: true, 16: true, 1<<31 - 2: true, 1<<31 - 1: true, 1 << 31: false, 1<<31 + 1: false, 1<<32 - 1: false, 1 << 32: false, 1<<32 + 1: false, 1<<63 - 1: false, 1 << 63: false, 1<<63 + 1: false, greatest - 1: false, greatest: false} {
			p := full()
			b := p.bytes()
			copy(b[p.lengths()[c]-8:], word(n))
			p.lasts[c].Reply.Err = api.Errno(n)
			if may {
				is(t, of(t, b), p)
			} else {
				none(t, fmt.Sprintf("the Err %d", n), b)
			}
		}
	}
}

// P11.2: ahead of all times there is no reply.
func TestOfTime0(t *testing.T) {
	for c := range 8 {
		for _, x := range []api.Last{last(0, 1, ""), last(0, api.ErrNone, ""), last(0, 1<<31-1, ""), last(0, 0, "x"), last(0, 0, "\x00"), last(0, api.ErrFunds, "x"), last(0, 1<<31, "")} {
			for _, p := range []plain{full(), {1, row(nil), nil}} {
				p.lasts[c] = x
				none(t, fmt.Sprintf("of client %d %+v", c+1, x), p.bytes())
			}
		}
	}
}

// P11.2: items that the ledger does not take.
func TestOfItems(t *testing.T) {
	k, v := strings.Repeat("k", 32), strings.Repeat("v", 128)
	with := func(n, at int, x api.Item) []api.Item {
		l := many(n)
		l[at] = x
		return l
	}
	for _, u := range []struct {
		name string
		l    []api.Item
	}{
		{"an empty key", items("", "1")},
		{"an empty key and value", items("", "")},
		{"an empty key ahead", items("", "1", "a", "1")},
		{"an empty key behind", items("a", "1", "", "1")},
		{"a key of one more", items(k+"k", "1")},
		{"a value of one more", items("a", v+"v")},
		{"a value of one more behind", items("a", "1", "b", v+"v")},
		{"falling", items("b", "1", "a", "1")},
		{"falling at the end", items("a", "1", "c", "1", "b", "1")},
		{"falling by case", items("a", "1", "B", "1")},
		{"falling by length", items("ab", "1", "a", "1")},
		{"falling by bytes", items("\xff", "1", "a", "1")},
		{"twice", items("a", "1", "a", "1")},
		{"twice, other values", items("a", "1", "a", "2")},
		{"twice at the end", items("a", "1", "b", "1", "b", "1")},
		{"one more than may be", many(65)},
		{"twice as many", many(128)},
		{"256 more than none", many(256)},
		{"256 more than may be", many(256 + 64)},
		{"very many", many(1<<16 + 1)},
		{"as many as may be, the last of which stands twice", with(64, 63, many(63)[62])},
		{"as many as may be, the last of an empty key", with(64, 63, api.Item{})},
		{"as many as may be, the first of a long value", with(64, 0, api.Item{Key: "a", Value: v + "v"})},
	} {
		p := full()
		p.items = u.l
		none(t, u.name, p.bytes())
	}
	p := plain{0, row(nil), nil}
	for _, n := range []uint64{1, 64, 65, 1 << 16, 1 << 62, greatest} {
		b := append(p.bytes()[:200], word(n)...)
		none(t, "items that do not stand there", b)
		none(t, "items of noughts", append(b, make([]byte, 1<<16)...))
		none(t, "items of noughts, all of them", append(b, make([]byte, 16*(n&(1<<17-1)))...))
	}
}

// rows: some requests of all kinds, of which some are let go.
func rows() []api.Request {
	return []api.Request{
		asked(1, 1, put("a", "10")), asked(2, 1, move("a", "b", 4)), asked(1, 1, put("a", "9")), asked(0, 1, get("a")),
		asked(8, 7, swap("b", "4", "word")), asked(8, 6, remove("a")), asked(3, 2, move("b", "a", 1)), asked(4, greatest, remove("c")),
		asked(2, 2, api.Op{}), asked(5, 1, get("b")), asked(6, 1, put(strings.Repeat("k", 32), strings.Repeat("v", 128))), asked(7, 3, remove("a")),
		asked(6, 2, get(strings.Repeat("k", 32))),
	}
}

// P11.3: the same requests make the same bytes; these, which tell unlike things, do not.
func TestSame(t *testing.T) {
	one, two := state.New(), state.New()
	for _, r := range rows() {
		one.Do(r)
	}
	for _, r := range rows() {
		r.Tag[3]++ // a tag is not looked at
		two.Do(r)
	}
	if !bytes.Equal(one.Bytes(), two.Bytes()) || one.Digest() != two.Digest() {
		t.Errorf("P11.3: %x and %x", one.Bytes(), two.Bytes())
	}
	if b := one.Bytes(); !bytes.Equal(b, one.Bytes()) {
		t.Error("P11.3: Bytes turns what it tells")
	}
	turns := []func(l []api.Request) []api.Request{
		func(l []api.Request) []api.Request { return l[1:] },
		func(l []api.Request) []api.Request { return l[:len(l)-1] },
		func(l []api.Request) []api.Request { return append(l, l[0]) },
		func(l []api.Request) []api.Request { return append(l[1:], l[0]) },
		func(l []api.Request) []api.Request { l[0].Op.Value = "11"; return l },
		func(l []api.Request) []api.Request { l[0].Time++; return l },
		func(l []api.Request) []api.Request { l[9].Client = 3; return l },
		func(l []api.Request) []api.Request { l[9].Op.Key = "a"; return l },
	}
	for i, turn := range turns {
		other := state.New()
		for _, r := range turn(rows()) {
			other.Do(r)
		}
		if bytes.Equal(other.Bytes(), one.Bytes()) || other.Digest() == one.Digest() {
			t.Errorf("P11.3: of another row, %d, the bytes are the same", i)
		}
	}
}

// P11.3: Of of Bytes is the state, goes on as it does, and by itself.
func TestOfBytes(t *testing.T) {
	l := rows()
	for n := range len(l) + 1 {
		s := state.New()
		for _, r := range l[:n] {
			s.Do(r)
		}
		u, kept := of(t, s.Bytes()), of(t, s.Bytes())
		was := kept.Bytes()
		for _, r := range append(slices.Clone(l[n:]), l...) {
			x, done := s.Do(r)
			told(t, u, r, x, done)
			if !bytes.Equal(s.Bytes(), u.Bytes()) || s.Digest() != u.Digest() || s.Count() != u.Count() {
				t.Errorf("P11.3: Of of Bytes, behind %d and %+v, = %x and not %x", n, r, u.Bytes(), s.Bytes())
			}
		}
		if !bytes.Equal(kept.Bytes(), was) {
			t.Errorf("P11.3: a state turned by what was done to another one")
		}
	}
}

// R3: what was handed to Of, and what Bytes and Items told, is no state's memory.
func TestOwnMemory(t *testing.T) {
	p := full()
	room := append(p.bytes(), "behind"...)
	from, was := room[:len(room)-6], slices.Clone(room)
	s := of(t, from)
	told(t, s, asked(1, 50, put("a", "10")), api.Reply{}, true)
	if !bytes.Equal(room, was) {
		t.Errorf("R3: what was handed in is %x", room)
	}
	p.count++
	p.lasts[0] = last(50, 0, "")
	for i := range room {
		room[i] = '!'
	}
	is(t, s, p)
	one, two := s.Bytes(), s.Bytes()
	for i := range one {
		one[i] ^= 255
	}
	_ = append(one[:9], "over"...)
	is(t, s, p)
	l, m := s.Items(), s.Items()
	for i := range l {
		l[i] = api.Item{Key: "z", Value: "9"}
	}
	_ = append(l[:1], items("y", "9")...)
	is(t, s, p)
	told(t, s, asked(2, 50, put("a", "other")), api.Reply{}, true)
	told(t, s, asked(3, 50, remove("b")), api.Reply{Value: "x"}, true)
	if !bytes.Equal(two, p.bytes()) || !slices.Equal(m, p.items) {
		t.Errorf("R3: what was told is %x, %+v", two, m)
	}
}

// R4: of no state there is nothing.
func TestNoState(t *testing.T) {
	var s *state.State
	for _, r := range append(rows(), api.Request{}) {
		told(t, s, r, refused(api.ErrNil), false)
	}
	for c := -1; c <= 9; c++ {
		if x := s.Last(c); x != (api.Last{}) {
			t.Errorf("P11.1: Last(%d) of no state = %+v", c, x)
		}
	}
	if s.Count() != 0 || len(s.Items()) != 0 || len(s.Bytes()) != 0 || s.Digest() != [32]byte{} {
		t.Errorf("P11.1: of no state: %d, %v, %x, %x", s.Count(), s.Items(), s.Bytes(), s.Digest())
	}
}
