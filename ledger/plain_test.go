package ledger_test

import (
	"maps"
	"math/big"
	"math/rand"
	"regexp"
	"slices"
	"strconv"
	"strings"
	"testing"

	"ratchet/api"
	"ratchet/ledger"
)

// plain is a ledger as the chapter's words say it.
type plain map[string]string

var (
	decimal = regexp.MustCompile(`^(0|[1-9][0-9]*)$`)
	highest = big.NewInt(1 << 50)
)

// count: the number that a value is, or none.
func count(value string) *big.Int {
	n, ok := new(big.Int).SetString(value, 10)
	if !decimal.MatchString(value) || !ok || n.Cmp(highest) > 0 {
		return nil
	}
	return n
}

// isKey, isValue: may it be one?
func isKey(s string) bool   { return len(s) > 0 && len(s) < 33 }
func isValue(s string) bool { return len(s) < 129 }

// mayBe: may an operation be, as the chapter's table says it?
func mayBe(o api.Op) bool {
	noValue, noOld, noTo, noAmount := o.Value == "", o.Old == "", o.To == "", o.Amount == 0
	switch o.Kind {
	case 1, 3:
		return isKey(o.Key) && noValue && noOld && noTo && noAmount
	case 2:
		return isKey(o.Key) && isValue(o.Value) && noOld && noTo && noAmount
	case 4:
		return isKey(o.Key) && isValue(o.Value) && isValue(o.Old) && noTo && noAmount
	case 5:
		return isKey(o.Key) && isKey(o.To) && o.Key != o.To && o.Amount > 0 && o.Amount < 1<<50+1 && noValue && noOld
	}
	return false
}

// do: as the chapter's table says it.
func (p plain) do(o api.Op) api.Reply {
	value, there := p[o.Key]
	room := there || len(p) < 64
	switch {
	case !mayBe(o):
		return api.Reply{Err: 1}
	case o.Kind != 2 && !there:
		return api.Reply{Err: 4}
	case o.Kind == 1:
		return api.Reply{Value: value}
	case o.Kind == 2 && !room:
		return api.Reply{Err: 7}
	case o.Kind == 3:
		delete(p, o.Key)
		return api.Reply{Value: value}
	case o.Kind == 4 && value != o.Old:
		return api.Reply{Err: 15, Value: value}
	case o.Kind == 5:
		return p.move(o)
	}
	p[o.Key] = o.Value
	return api.Reply{}
}

// move: of a Key that is there.
func (p plain) move(o api.Op) api.Reply {
	behind, there := p[o.To]
	if !there {
		behind = "0"
	}
	from, to, amount := count(p[o.Key]), count(behind), new(big.Int).SetUint64(o.Amount)
	if from == nil || to == nil {
		return api.Reply{Err: 5}
	}
	if from.Cmp(amount) < 0 {
		return api.Reply{Err: 14, Value: p[o.Key]}
	}
	more := new(big.Int).Add(to, amount)
	if more.Cmp(highest) > 0 {
		return api.Reply{Err: 6}
	}
	if !there && len(p) >= 64 {
		return api.Reply{Err: 7}
	}
	p[o.Key], p[o.To] = new(big.Int).Sub(from, amount).String(), more.String()
	return api.Reply{Value: p[o.Key]}
}

// list: all keys with their values.
func (p plain) list() []api.Item {
	var l []api.Item
	for _, k := range slices.SortedFunc(maps.Keys(p), byBytes) {
		l = append(l, api.Item{Key: k, Value: p[k]})
	}
	return l
}

// byBytes: which of two keys is ahead, byte by byte.
func byBytes(a, b string) int {
	for i := range min(len(a), len(b)) {
		if a[i] != b[i] {
			return int(a[i]) - int(b[i])
		}
	}
	return len(a) - len(b)
}

// total: the sum of all numbers.
func total(l []api.Item) *big.Int {
	sum := new(big.Int)
	for _, i := range l {
		if n := count(i.Value); n != nil {
			sum.Add(sum, n)
		}
	}
	return sum
}

// some: one of these.
func some[T any](r *rand.Rand, l ...T) T { return l[r.Intn(len(l))] }

// anyKey: one of many, mostly; among them some of odd bytes, and now and then one that may not be.
func anyKey(r *rand.Rand, many int) string {
	switch r.Intn(20) {
	case 0:
		return some(r, "\x00", "\xff", "\xff\x00", "a\x00", "a", "ab", "B", "\u00e4", strings.Repeat("k", 32), strings.Repeat("k", 31))
	case 1:
		return some(r, "", strings.Repeat("k", 33), "a", "ab")
	}
	return "k" + strconv.Itoa(r.Intn(many))
}

// anyValue: a number, mostly; now and then one at an edge, none, or what may not be.
func anyValue(r *rand.Rand) string {
	switch r.Intn(10) {
	case 0:
		return some(r, "0", "1", "1125899906842623", "1125899906842624", "1125899906842625", "562949953421312", "18446744073709551616")
	case 1:
		return some(r, "", "x", "01", "00", "+1", "-1", "-0", " 1", "1 ", "1_0", "0x1", "1e1", "1.0", strings.Repeat("1", 128), strings.Repeat("1", 129))
	}
	return strconv.Itoa(r.Intn(30))
}

// anyAmount: a small one, mostly.
func anyAmount(r *rand.Rand) uint64 {
	if r.Intn(8) == 0 {
		return some[uint64](r, 0, 1, 1<<49, 1<<50-1, 1<<50, 1<<50+1, 1<<63, 1<<64-1)
	}
	return uint64(r.Intn(20))
}

// anyOp: one that may be, mostly.
func anyOp(r *rand.Rand, many int) api.Op {
	o := api.Op{Kind: some[uint8](r, 1, 2, 2, 3, 4, 5, 5, 5), Key: anyKey(r, many)}
	switch o.Kind {
	case api.OpPut:
		o.Value = anyValue(r)
	case api.OpSwap:
		o.Old, o.Value = anyValue(r), anyValue(r)
	case api.OpMove:
		o.To, o.Amount = anyKey(r, many), anyAmount(r)
	}
	if r.Intn(20) == 0 {
		o.Kind = some[uint8](r, 0, 1, 2, 3, 4, 5, 6, 255)
	}
	return o
}

// P9.1, P9.2, P9.3: any operations, each held against the plain reading; and Of of a List goes on as the ledger does.
func TestAnyOperations(t *testing.T) {
	met := map[uint8]map[api.Errno]int{}
	for k := range uint8(6) {
		met[k] = map[api.Errno]int{}
	}
	for seed := range int64(120) {
		r := rand.New(rand.NewSource(seed))
		l, p, many := ledger.New(), plain{}, some(r, 3, 8, 80, 120)
		for range 500 {
			o, ahead := anyOp(r, many), total(p.list())
			x := l.Do(o)
			if want := p.do(o); x != want || ledger.May(o) != mayBe(o) {
				t.Fatalf("P9.2: seed %d: Do(%+v) = %+v and not %+v", seed, o, x, want)
			}
			if got := l.List(); !slices.Equal(got, p.list()) {
				t.Fatalf("P9.2: seed %d: behind %+v List = %+v", seed, o, got)
			}
			if o.Kind == api.OpMove && total(l.List()).Cmp(ahead) != 0 {
				t.Fatalf("P9.3: seed %d: %+v turned the sum", seed, o)
			}
			if o.Kind < 6 {
				met[o.Kind][x.Err]++
			}
			if r.Intn(4) == 0 {
				l = again(t, l)
			}
		}
	}
	for _, u := range []struct {
		kind uint8
		errs []api.Errno
	}{{1, []api.Errno{0, 1, 4}}, {2, []api.Errno{0, 1, 7}}, {3, []api.Errno{0, 1, 4}}, {4, []api.Errno{0, 1, 4, 15}}, {5, []api.Errno{0, 1, 4, 5, 6, 7, 14}}} {
		for _, e := range u.errs {
			if met[u.kind][e] == 0 {
				t.Errorf("no operation of Kind %d was answered %d", u.kind, e)
			}
		}
	}
}

// again: Of of a List.
func again(t *testing.T, l *ledger.Ledger) *ledger.Ledger {
	t.Helper()
	m, e := ledger.Of(l.List())
	if e != api.OK || m == nil || !slices.Equal(m.List(), l.List()) {
		t.Fatalf("P9.3: Of of %+v = %d", l.List(), e)
	}
	return m
}

// anyItems: they rise, mostly, and may be.
func anyItems(r *rand.Rand) []api.Item {
	p := plain{}
	for range some(r, 0, 1, 2, 10, 90, 110) {
		p[anyKey(r, 200)] = anyValue(r)
	}
	delete(p, some(r, "", "a"))
	delete(p, some(r, strings.Repeat("k", 33), "ab"))
	l := p.list()
	if len(l) > 64 && r.Intn(2) == 0 {
		l = l[:64+r.Intn(2)]
	}
	if len(l) > 1 && r.Intn(4) == 0 {
		i := r.Intn(len(l) - 1)
		l[i], l[i+1] = some(r, l[i+1], l[i]), l[i]
	}
	return l
}

// P9.1: Of of any items, held against the chapter's words.
func TestAnyItems(t *testing.T) {
	met := map[api.Errno]int{}
	r := rand.New(rand.NewSource(9))
	for range 4000 {
		l, want := anyItems(r), api.OK
		if len(l) > 64 {
			want = api.ErrMany
		}
		for i, x := range l {
			if !isKey(x.Key) || !isValue(x.Value) || i > 0 && byBytes(l[i-1].Key, x.Key) >= 0 {
				want = api.ErrArg
			}
		}
		met[want]++
		m, e := ledger.Of(l)
		if e != want || (m == nil) != (want != api.OK) || m != nil && !slices.Equal(m.List(), l) {
			t.Fatalf("P9.1: Of(%+v) = %d and not %d", l, e, want)
		}
	}
	if met[api.OK] < 100 || met[api.ErrArg] < 100 || met[api.ErrMany] < 100 {
		t.Errorf("too few of some answer: %v", met)
	}
}
