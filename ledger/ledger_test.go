package ledger_test

import (
	"fmt"
	"slices"
	"strings"
	"testing"

	"ratchet/api"
	"ratchet/ledger"
)

// top is the highest number, and most one more.
const (
	top  = "1125899906842624"
	most = "1125899906842625"
)

// The operations, with what their Kinds have.
func get(k string) api.Op          { return api.Op{Kind: api.OpGet, Key: k} }
func put(k, v string) api.Op       { return api.Op{Kind: api.OpPut, Key: k, Value: v} }
func remove(k string) api.Op       { return api.Op{Kind: api.OpDelete, Key: k} }
func swap(k, old, v string) api.Op { return api.Op{Kind: api.OpSwap, Key: k, Old: old, Value: v} }
func move(k, to string, n uint64) api.Op {
	return api.Op{Kind: api.OpMove, Key: k, To: to, Amount: n}
}

// items: keys and values by turns.
func items(l ...string) []api.Item {
	var out []api.Item
	for i := 0; i < len(l); i += 2 {
		out = append(out, api.Item{Key: l[i], Value: l[i+1]})
	}
	return out
}

// many: n items whose keys rise, from k00 on, each with the value 10.
func many(n int) []api.Item {
	var out []api.Item
	for i := range n {
		out = append(out, api.Item{Key: fmt.Sprintf("k%02d", i), Value: "10"})
	}
	return out
}

// of: the ledger that has these.
func of(t *testing.T, l []api.Item) *ledger.Ledger {
	t.Helper()
	m, e := ledger.Of(l)
	if e != api.OK || m == nil {
		t.Fatalf("P9.1: Of(%+v) = %d", l, e)
	}
	return m
}

// has fails unless the ledger has these, and nothing else.
func has(t *testing.T, l *ledger.Ledger, want []api.Item) {
	t.Helper()
	if got := l.List(); !slices.Equal(got, want) {
		t.Errorf("List = %+v and not %+v", got, want)
	}
}

// told fails unless a ledger that has these answers so, and has those behind it.
func told(t *testing.T, from []api.Item, o api.Op, want api.Reply, then []api.Item) {
	t.Helper()
	l := of(t, from)
	if x := l.Do(o); x != want {
		t.Errorf("P9.2: Do(%+v) = %+v and not %+v", o, x, want)
	}
	has(t, l, then)
}

// refused fails unless a ledger that has these answers that error and value, and has the same behind it.
func refused(t *testing.T, from []api.Item, o api.Op, e api.Errno, value string) {
	t.Helper()
	told(t, from, o, api.Reply{Err: e, Value: value}, from)
}

// P9.1: a new ledger has nothing, and each is one of its own.
func TestNew(t *testing.T) {
	l, m := ledger.New(), ledger.New()
	if l == nil {
		t.Fatal("P9.1: New is none")
	}
	has(t, l, nil)
	if x := l.Do(put("a", "1")); x != (api.Reply{}) {
		t.Errorf("P9.2: Do = %+v", x)
	}
	has(t, l, items("a", "1"))
	has(t, m, nil)
}

// P9.1: Of of items at all edges.
func TestOf(t *testing.T) {
	k, v := strings.Repeat("k", 32), strings.Repeat("v", 128)
	with := func(at int, key, value string) []api.Item {
		l := many(65)
		l[at] = api.Item{Key: key, Value: value}
		return l
	}
	for _, u := range []struct {
		name string
		l    []api.Item
		want api.Errno
	}{
		{"nil", nil, api.OK},
		{"none", []api.Item{}, api.OK},
		{"one", items("a", "1"), api.OK},
		{"a value of none", items("a", ""), api.OK},
		{"the longest", items(k, v), api.OK},
		{"a key of none", items("", "1"), api.ErrArg},
		{"a key of none ahead", items("", "1", "a", "1"), api.ErrArg},
		{"a key of one more", items(k+"k", "1"), api.ErrArg},
		{"a value of one more", items("a", v+"v"), api.ErrArg},
		{"a value of one more behind", items("a", "1", "b", v+"v"), api.ErrArg},
		{"rising by bytes", items("\x00", "", "\x00\x00", "", "B", "", "a", "", "aB", "", "ab", "", "b", "", "\x7f", "", "\x80", "", "\xc3\xa4", "", "\xff", ""), api.OK},
		{"falling", items("b", "1", "a", "1"), api.ErrArg},
		{"falling at the end", items("a", "1", "c", "1", "b", "1"), api.ErrArg},
		{"falling by case", items("a", "1", "B", "1"), api.ErrArg},
		{"falling by length", items("ab", "1", "a", "1"), api.ErrArg},
		{"rising by number alone", items("9", "1", "10", "1"), api.ErrArg},
		{"twice", items("a", "1", "a", "1"), api.ErrArg},
		{"twice, other values", items("a", "1", "a", "2"), api.ErrArg},
		{"twice at the end", items("a", "1", "b", "1", "b", "1"), api.ErrArg},
		{"as many as may be, less one", many(63), api.OK},
		{"as many as may be", many(64), api.OK},
		{"one more", many(65), api.ErrMany},
		{"many more", many(99), api.ErrMany},
		{"one more, and a key of none", with(0, "", "1"), api.ErrArg},
		{"one more, and a last key that is too long", with(64, "k64"+k, "1"), api.ErrArg},
		{"one more, and a last value that is too long", with(64, "k64", v+"v"), api.ErrArg},
		{"one more, and a first value that is too long", with(0, "k00", v+"v"), api.ErrArg},
		{"one more, the last of which stands twice", with(64, "k63", "1"), api.ErrArg},
		{"one more, the last of which falls", with(64, "a", "1"), api.ErrArg},
	} {
		l, e := ledger.Of(u.l)
		if e != u.want || (l == nil) != (u.want != api.OK) {
			t.Errorf("P9.1: %s: Of = %v, %d", u.name, l, e)
		}
		if l != nil {
			has(t, l, u.l)
		}
	}
}

// P9.1: List rises by bytes, in whatever order the keys came and went.
func TestListRises(t *testing.T) {
	keys := []string{"\x00", "\x00\x00", "10", "9", "B", "a", "a\x00", "aB", "ab", "b", "\x7f", "\x80", "\xc3\xa4", "\xff"}
	for turn := range keys {
		l, want := ledger.New(), []api.Item(nil)
		for i := range keys {
			k := keys[(i*5+turn)%len(keys)] // 5 and their count have no divisor in common
			l.Do(put(k, "1"))
		}
		l.Do(remove(keys[turn]))
		for i, k := range keys {
			if i != turn {
				want = append(want, api.Item{Key: k, Value: "1"})
			}
		}
		has(t, l, want)
	}
}

// P9.1: what was handed to Of, and what List told, is no ledger's memory.
func TestOwnMemory(t *testing.T) {
	room := items("a", "1", "b", "2", "c", "3")
	from := room[:2]
	l := of(t, from)
	from[0] = api.Item{Key: "z", Value: "9"}
	has(t, l, items("a", "1", "b", "2"))
	l.Do(put("b", "x"))
	l.Do(put("bb", "x"))
	l.Do(remove("a"))
	if !slices.Equal(room, items("z", "9", "b", "2", "c", "3")) {
		t.Errorf("R3: what was handed in is %+v", room)
	}
	one, two := l.List(), l.List()
	one[0] = api.Item{Key: "z", Value: "9"}
	_ = append(one[:1], items("y", "9")...)
	has(t, l, items("b", "x", "bb", "x"))
	if !slices.Equal(two, items("b", "x", "bb", "x")) {
		t.Errorf("R3: what was told is %+v", two)
	}
	l.Do(put("b", "3"))
	l.Do(remove("bb"))
	l.Do(put("a", "4"))
	if !slices.Equal(two, items("b", "x", "bb", "x")) {
		t.Errorf("R3: what was told is %+v", two)
	}
	has(t, l, items("a", "4", "b", "3"))
}

// judged fails unless an operation may be, or may not: by May, and by Do of a ledger that has nothing, or as much as may be.
func judged(t *testing.T, name string, o api.Op, may bool) {
	t.Helper()
	if ledger.May(o) != may || mayBe(o) != may {
		t.Errorf("P9.1: %s: May(%+v) = %v", name, o, !may)
	}
	for _, from := range [][]api.Item{nil, many(64)} {
		l := of(t, from)
		if x := l.Do(o); may == (x.Err == api.ErrArg) || !may && x != (api.Reply{Err: api.ErrArg}) {
			t.Errorf("P9.2: %s: Do(%+v) = %+v", name, o, x)
		}
		if !may {
			has(t, l, from)
		}
	}
}

// P9.1: each Kind has its fields, and nothing else.
func TestKindsAndFields(t *testing.T) {
	ops := map[uint8]api.Op{1: get("k01"), 2: put("k01", "1"), 3: remove("k01"), 4: swap("k01", "10", "1"), 5: move("k01", "k02", 1)}
	turns := []struct {
		name  string
		kinds []uint8
		turn  func(o *api.Op)
	}{
		{"Value", []uint8{api.OpPut, api.OpSwap}, func(o *api.Op) { o.Value = "x" }},
		{"Old", []uint8{api.OpSwap}, func(o *api.Op) { o.Old = "x" }},
		{"To", []uint8{api.OpMove}, func(o *api.Op) { o.To = "k03" }},
		{"Amount", []uint8{api.OpMove}, func(o *api.Op) { o.Amount = 2 }},
	}
	for kind, o := range ops {
		judged(t, "an operation", o, true)
		for _, u := range turns {
			x := o
			u.turn(&x)
			judged(t, u.name, x, slices.Contains(u.kinds, kind))
		}
	}
	for k := range 256 {
		alone := api.Op{Kind: uint8(k), Key: "k01"}
		_, is := ops[alone.Kind]
		judged(t, "a Key alone", alone, is && alone.Kind != api.OpMove)
		for _, o := range ops {
			if o.Kind = alone.Kind; !is {
				judged(t, "no Kind", o, false)
			}
		}
	}
	judged(t, "nothing", api.Op{}, false)
}

// P9.1: keys and values of all lengths at the edges, at each place.
func TestLengths(t *testing.T) {
	for n, may := range map[int]bool{0: false, 1: true, 2: true, 31: true, 32: true, 33: false, 128: false, 129: false, 256: false, 257: false, 1 << 16: false, 1<<16 + 1: false} {
		k := strings.Repeat("\xff", n)
		for _, o := range []api.Op{get(k), put(k, "1"), remove(k), swap(k, "1", "2"), move(k, "b", 1), move("b", k, 1)} {
			judged(t, "a key", o, may)
		}
	}
	for n, may := range map[int]bool{0: true, 1: true, 127: true, 128: true, 129: false, 256: false, 1 << 16: false, 1<<16 + 1: false} {
		v := strings.Repeat("\x00", n)
		for _, o := range []api.Op{put("a", v), swap("a", v, "1"), swap("a", "1", v), swap("a", v, v)} {
			judged(t, "a value", o, may)
		}
	}
}

// P9.1: what a Move may be.
func TestMayMove(t *testing.T) {
	for n, may := range map[uint64]bool{0: false, 1: true, 2: true, 1<<50 - 1: true, 1 << 50: true, 1<<50 + 1: false, 1 << 51: false, 1 << 63: false, 1<<64 - 1: false} {
		judged(t, "Amount", move("a", "b", n), may)
	}
	k := strings.Repeat("k", 32)
	for _, x := range []string{"a", "k01", "\x00", k} {
		judged(t, "to itself", move(x, x, 1), false)
	}
	judged(t, "to one that is nearly it", move(k, k[1:], 1), true)
	judged(t, "to one of another case", move("a", "A", 1), true)
	judged(t, "to one of a nought more", move("a", "a\x00", 1), true)
}

// P9.2: Get.
func TestGet(t *testing.T) {
	v := strings.Repeat("v", 128)
	from := items("a", "1", "b", "", "c", v)
	told(t, from, get("a"), api.Reply{Value: "1"}, from)
	told(t, from, get("b"), api.Reply{}, from)
	told(t, from, get("c"), api.Reply{Value: v}, from)
	for _, k := range []string{"A", "aa", "d", "\x00", "a\x00"} {
		refused(t, from, get(k), api.ErrNone, "")
	}
	refused(t, nil, get("a"), api.ErrNone, "")
	refused(t, from, get(""), api.ErrArg, "")
}

// P9.2: Put, of a key that is there, or not, with room and without.
func TestPut(t *testing.T) {
	told(t, nil, put("a", "1"), api.Reply{}, items("a", "1"))
	told(t, nil, put("a", ""), api.Reply{}, items("a", ""))
	told(t, items("b", "1"), put("a", "2"), api.Reply{}, items("a", "2", "b", "1"))
	told(t, items("a", "1"), put("b", "2"), api.Reply{}, items("a", "1", "b", "2"))
	told(t, items("a", "1", "c", "3"), put("b", "2"), api.Reply{}, items("a", "1", "b", "2", "c", "3"))
	told(t, items("a", "1"), put("a", "2"), api.Reply{}, items("a", "2"))
	told(t, items("a", "1"), put("a", ""), api.Reply{}, items("a", ""))
	told(t, items("a", "1"), put("a", "1"), api.Reply{}, items("a", "1"))
	told(t, many(63), put("k63", "10"), api.Reply{}, many(64))
	for i := range 64 {
		then := many(64)
		then[i].Value = "x"
		told(t, many(64), put(then[i].Key, "x"), api.Reply{}, then)
	}
	for _, k := range []string{"a", "k005", "k64", "z"} {
		refused(t, many(64), put(k, "x"), api.ErrFull, "")
	}
	l := of(t, many(64))
	l.Do(remove("k00"))
	if x := l.Do(put("z", "1")); x != (api.Reply{}) {
		t.Errorf("P9.2: Put behind a Delete = %+v", x)
	}
	if x := l.Do(put("k00", "1")); x != (api.Reply{Err: api.ErrFull}) {
		t.Errorf("P9.2: Put of what is there no more = %+v", x)
	}
}

// P9.2: Delete tells what was.
func TestDelete(t *testing.T) {
	from := items("a", "1", "b", "", "c", "x")
	told(t, from, remove("a"), api.Reply{Value: "1"}, from[1:])
	told(t, from, remove("b"), api.Reply{}, items("a", "1", "c", "x"))
	told(t, from, remove("c"), api.Reply{Value: "x"}, from[:2])
	told(t, items("a", "1"), remove("a"), api.Reply{Value: "1"}, nil)
	for _, k := range []string{"A", "aa", "d", "\x00"} {
		refused(t, from, remove(k), api.ErrNone, "")
	}
	refused(t, nil, remove("a"), api.ErrNone, "")
	refused(t, from, remove(""), api.ErrArg, "")
	l := of(t, from)
	l.Do(remove("a"))
	for _, o := range []api.Op{get("a"), remove("a"), swap("a", "1", "2"), move("a", "z", 1)} {
		if x := l.Do(o); x != (api.Reply{Err: api.ErrNone}) {
			t.Errorf("P9.2: behind a Delete Do(%+v) = %+v", o, x)
		}
	}
}

// P9.2: Swap.
func TestSwap(t *testing.T) {
	from := items("a", "1", "b", "")
	told(t, from, swap("a", "1", "2"), api.Reply{}, items("a", "2", "b", ""))
	told(t, from, swap("a", "1", "1"), api.Reply{}, from)
	told(t, from, swap("a", "1", ""), api.Reply{}, items("a", "", "b", ""))
	told(t, from, swap("b", "", "x"), api.Reply{}, items("a", "1", "b", "x"))
	told(t, from, swap("b", "", ""), api.Reply{}, from)
	refused(t, from, swap("a", "2", "3"), api.ErrOther, "1")
	refused(t, from, swap("a", "", "3"), api.ErrOther, "1")
	refused(t, from, swap("a", "01", "3"), api.ErrOther, "1")
	refused(t, from, swap("a", "2", "1"), api.ErrOther, "1")
	refused(t, from, swap("b", "x", "y"), api.ErrOther, "")
	refused(t, from, swap("c", "1", "2"), api.ErrNone, "")
	refused(t, from, swap("c", "", ""), api.ErrNone, "")
	refused(t, nil, swap("a", "", "1"), api.ErrNone, "")
	refused(t, many(64), swap("z", "", "1"), api.ErrNone, "")
	told(t, many(64)[:1], swap("k00", "10", "x"), api.Reply{}, items("k00", "x"))
	refused(t, from, swap("", "", ""), api.ErrArg, "")
}

// P9.2: Move, of as much as there is, and of one more; to what is there, and what is not.
func TestMove(t *testing.T) {
	from := items("a", "10", "b", "5")
	told(t, from, move("a", "b", 4), api.Reply{Value: "6"}, items("a", "6", "b", "9"))
	told(t, from, move("b", "a", 4), api.Reply{Value: "1"}, items("a", "14", "b", "1"))
	told(t, from, move("a", "b", 9), api.Reply{Value: "1"}, items("a", "1", "b", "14"))
	told(t, from, move("a", "b", 10), api.Reply{Value: "0"}, items("a", "0", "b", "15"))
	refused(t, from, move("a", "b", 11), api.ErrFunds, "10")
	refused(t, from, move("a", "b", 1<<50), api.ErrFunds, "10")
	refused(t, from, move("a", "c", 11), api.ErrFunds, "10")
	told(t, from, move("a", "c", 3), api.Reply{Value: "7"}, items("a", "7", "b", "5", "c", "3"))
	told(t, from, move("b", "A", 5), api.Reply{Value: "0"}, items("A", "5", "a", "10", "b", "0"))
	told(t, items("b", "5"), move("b", "a", 1), api.Reply{Value: "4"}, items("a", "1", "b", "4"))
	refused(t, from, move("c", "a", 1), api.ErrNone, "")
	refused(t, from, move("c", "d", 1), api.ErrNone, "")
	refused(t, nil, move("a", "b", 1), api.ErrNone, "")
	refused(t, items("a", "0"), move("a", "b", 1), api.ErrFunds, "0")
	refused(t, from, move("a", "a", 1), api.ErrArg, "")
	refused(t, from, move("a", "b", 0), api.ErrArg, "")
}

// P9.2: Move where the values are numbers, or none.
func TestMoveNumbers(t *testing.T) {
	for _, v := range []string{"", " ", "x", "+1", "-1", "-0", "+", "-", " 1", "1 ", "1\n", "01", "00", "000", "1x", "x1", "1_0", "1e1", "1.0", "0x1", "0b1", "0o7", "\u0661", "1\x00", most, "9007199254740992", "18446744073709551615", "18446744073709551616", "18446744073709551617", strings.Repeat("1", 128)} {
		refused(t, items("a", v, "b", "5"), move("a", "b", 1), api.ErrBytes, "")
		refused(t, items("a", v), move("a", "b", 1), api.ErrBytes, "")
		refused(t, items("a", "5", "b", v), move("a", "b", 1), api.ErrBytes, "")
		refused(t, items("a", v, "b", v), move("a", "b", 1), api.ErrBytes, "")
	}
	for v, less := range map[string]string{"1": "0", "9": "8", "10": "9", "100": "99", "4294967296": "4294967295", "1125899906842623": "1125899906842622", top: "1125899906842623"} {
		told(t, items("a", v, "b", "0"), move("a", "b", 1), api.Reply{Value: less}, items("a", less, "b", "1"))
	}
}

// P9.2: Move of the most, and to the most.
func TestMoveMost(t *testing.T) {
	told(t, items("a", top), move("a", "b", 1<<50), api.Reply{Value: "0"}, items("a", "0", "b", top))
	told(t, items("a", top, "b", "0"), move("a", "b", 1<<50), api.Reply{Value: "0"}, items("a", "0", "b", top))
	refused(t, items("a", top, "b", "1"), move("a", "b", 1<<50), api.ErrMany, "")
	refused(t, items("a", top, "b", top), move("a", "b", 1<<50), api.ErrMany, "")
	refused(t, items("a", "5", "b", top), move("a", "b", 1), api.ErrMany, "")
	told(t, items("a", "5", "b", "1125899906842623"), move("a", "b", 1), api.Reply{Value: "4"}, items("a", "4", "b", top))
	refused(t, items("a", "5", "b", "1125899906842623"), move("a", "b", 2), api.ErrMany, "")
	told(t, items("a", top, "b", "5"), move("b", "c", 5), api.Reply{Value: "0"}, items("a", top, "b", "0", "c", "5"))
}

// P9.2: Move with as many keys as may be.
func TestMoveFull(t *testing.T) {
	then := many(64)
	then[0].Value, then[63].Value = "7", "13"
	told(t, many(64), move("k00", "k63", 3), api.Reply{Value: "7"}, then)
	refused(t, many(64), move("k00", "z", 3), api.ErrFull, "")
	refused(t, many(64), move("k00", "a", 10), api.ErrFull, "")
	then = append(many(63), api.Item{Key: "z", Value: "10"})
	then[0].Value = "0"
	told(t, many(63), move("k00", "z", 10), api.Reply{Value: "0"}, then)
}

// P9.2: of two errors of a Move the first of the chapter's order is told.
func TestMoveOrder(t *testing.T) {
	full := func(at int, value string) []api.Item {
		l := many(64)
		l[at].Value = value
		return l
	}
	refused(t, items("b", "x"), move("a", "a", 1), api.ErrArg, "")              // and None
	refused(t, items("a", "x"), move("a", "a", 1), api.ErrArg, "")              // and Bytes
	refused(t, items("a", "1"), move("a", "b", 1<<50+1), api.ErrArg, "")        // and Funds
	refused(t, items("b", "x"), move("a", "b", 1), api.ErrNone, "")             // and Bytes
	refused(t, items("b", top), move("a", "b", 1), api.ErrNone, "")             // and Many
	refused(t, many(64), move("y", "z", 1), api.ErrNone, "")                    // and Full
	refused(t, items("a", "1", "b", "x"), move("a", "b", 2), api.ErrBytes, "")  // and Funds
	refused(t, items("a", "", "b", top), move("a", "b", 1), api.ErrBytes, "")   // and Many
	refused(t, items("a", "x", "b", "1"), move("a", "b", 2), api.ErrBytes, "")  // and Funds, if it were 0
	refused(t, full(0, "x"), move("k00", "z", 1), api.ErrBytes, "")             // and Full
	refused(t, items("a", "1", "b", top), move("a", "b", 2), api.ErrFunds, "1") // and Many
	refused(t, full(0, "1"), move("k00", "z", 2), api.ErrFunds, "1")            // and Full
	refused(t, full(5, top), move("k05", "z", 1<<50), api.ErrFull, "")          // alone: nothing there is 0
}

// P9.2: with any error nothing is turned that a later call could tell.
func TestNothingTurned(t *testing.T) {
	from := many(64)
	from[1].Value, from[2].Value, from[3].Value = "x", top, ""
	errs := map[api.Errno]api.Op{
		api.ErrArg:   move("k00", "k00", 1),
		api.ErrNone:  get("z"),
		api.ErrBytes: move("k00", "k01", 1),
		api.ErrMany:  move("k00", "k02", 1),
		api.ErrFull:  move("k00", "z", 1),
		api.ErrFunds: move("k00", "k04", 11),
		api.ErrOther: swap("k00", "x", "y"),
	}
	l := of(t, from)
	for e, o := range errs {
		for range 2 {
			if x := l.Do(o); x.Err != e {
				t.Errorf("P9.2: Do(%+v) = %+v", o, x)
			}
			has(t, l, from)
		}
	}
	for _, i := range from {
		if x := l.Do(get(i.Key)); x != (api.Reply{Value: i.Value}) {
			t.Errorf("P9.2: Get of %s = %+v", i.Key, x)
		}
	}
}

// P9.3: a Move leaves the sum of all numbers as it was; what is no number counts for nothing.
func TestSum(t *testing.T) {
	l := of(t, items("a", "10", "b", "x", "c", "0", "d", top, "e", "01", "f", most))
	sum := total(l.List())
	for _, o := range []api.Op{move("a", "c", 4), move("a", "g", 6), move("d", "a", 1<<50), move("a", "d", 1<<49), move("c", "d", 5), move("b", "a", 1), move("a", "e", 1), move("g", "h", 6), move("g", "h", 1)} {
		l.Do(o)
		if now := total(l.List()); now.Cmp(sum) != 0 {
			t.Errorf("P9.3: behind %+v the sum is %v and not %v", o, now, sum)
		}
	}
	has(t, l, items("a", "562949953421312", "b", "x", "c", "4", "d", "562949953421312", "e", "01", "f", most, "g", "0", "h", "6"))
}

// P9.3: Of of a List is the ledger, and one of its own.
func TestOfList(t *testing.T) {
	for _, n := range []int{0, 1, 2, 63, 64} {
		l := of(t, many(n))
		m := again(t, l)
		for _, o := range []api.Op{put("z", "1"), get("k00"), remove("k01"), swap("k00", "10", "x"), move("k62", "k63", 2), put("y", "")} {
			if x, y := l.Do(o), m.Do(o); x != y {
				t.Errorf("P9.3: Do(%+v) = %+v, and of Of of List %+v", o, x, y)
			}
			has(t, m, l.List())
		}
		was := l.List()
		m.Do(remove("z"))
		m.Do(put("k00", "other"))
		has(t, l, was)
	}
}

// R4: of no ledger there is nothing.
func TestNoLedger(t *testing.T) {
	var l *ledger.Ledger
	for _, o := range []api.Op{{}, get("a"), put("a", "1"), remove("a"), swap("a", "", ""), move("a", "b", 1), get(""), move("a", "a", 0), {Kind: 6}, {Kind: 255, Key: strings.Repeat("k", 99)}} {
		if x := l.Do(o); x != (api.Reply{Err: api.ErrNil}) {
			t.Errorf("R4: Do(%+v) of no ledger = %+v", o, x)
		}
	}
	if got := l.List(); len(got) != 0 {
		t.Errorf("R4: List of no ledger = %+v", got)
	}
}

// R1, R3: very long keys and values are refused, and what is handed in stays.
func TestMuch(t *testing.T) {
	much := strings.Repeat("1", 1<<20)
	for _, o := range []api.Op{get(much), put("a", much), swap("a", much, much), move(much, "a", 1), {Kind: 5, Key: much, Value: much, Old: much, To: much, Amount: 1<<64 - 1}} {
		judged(t, "much", o, false)
	}
	if l, e := ledger.Of(items(much, much)); l != nil || e != api.ErrArg {
		t.Errorf("P9.1: Of of much = %d", e)
	}
	if l, e := ledger.Of(make([]api.Item, 1<<16)); l != nil || e != api.ErrArg {
		t.Errorf("P9.1: Of of many zero items = %d", e)
	}
}

// P9.2: the chapter's examples.
func TestExamples(t *testing.T) {
	l := ledger.New()
	for _, u := range []struct {
		o    api.Op
		want api.Reply
	}{
		{put("a", "10"), api.Reply{}},
		{move("a", "b", 4), api.Reply{Value: "6"}},
		{get("b"), api.Reply{Value: "4"}},
		{move("b", "a", 5), api.Reply{Err: api.ErrFunds, Value: "4"}},
		{swap("b", "3", "x"), api.Reply{Err: api.ErrOther, Value: "4"}},
	} {
		if x := l.Do(u.o); x != u.want {
			t.Errorf("P9.2: Do(%+v) = %+v and not %+v", u.o, x, u.want)
		}
	}
	has(t, l, items("a", "6", "b", "4"))
}
