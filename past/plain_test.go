package past_test

import (
	"fmt"
	"math"
	"math/rand"
	"reflect"
	"slices"
	"strings"
	"testing"

	"ratchet/past"
)

// plain is a past, as the chapter's words say it: each view that was entered, in its order, and each Change that counted.
type plain struct {
	entered []view
	changes []uint64
}

// view that was entered, and what was voted in it.
type view struct {
	number uint64
	voted  int
}

// greatest: of all that were entered, and all Changes that counted.
func (p *plain) greatest() uint64 {
	all := slices.Clone(p.changes)
	for _, x := range p.entered {
		all = append(all, x.number)
	}
	return slices.Max(all)
}

// find: a view that was entered, or nil.
func (p *plain) find(v uint64) *view {
	for i := range p.entered {
		if p.entered[i].number == v {
			return &p.entered[i]
		}
	}
	return nil
}

// open: a view, if it was entered and is the greatest, or nil.
func (p *plain) open(v uint64) *view {
	if v != p.greatest() {
		return nil
	}
	return p.find(v)
}

// change: to a view.
func (p *plain) change(v uint64) bool {
	counts := v > p.greatest() && v < 1<<30
	if counts {
		p.changes = append(p.changes, v)
	}
	return counts
}

// enter: of a view, with so much that was voted.
func (p *plain) enter(v uint64, long int) bool {
	above := true
	for _, x := range p.entered {
		above = above && v > x.number
	}
	counts := above && v >= p.greatest() && v < 1<<30 && long >= 0
	if counts {
		p.entered = append(p.entered, view{v, long})
	}
	return counts
}

// prepare: one more in a view.
func (p *plain) prepare(v uint64) bool {
	x := p.open(v)
	if x == nil || x.voted == math.MaxInt {
		return false
	}
	x.voted++
	return true
}

// commit: the k-th one in a view.
func (p *plain) commit(v, k uint64, most int) bool {
	x := p.open(v)
	if x == nil || k == 0 || k-1 != uint64(x.voted) || most < 0 || k > uint64(most) {
		return false
	}
	x.voted++
	return true
}

// String: as told tells it of a past.
func (p *plain) String() string {
	s := []string{fmt.Sprint(p.greatest())}
	for _, x := range p.entered {
		s = append(s, fmt.Sprintf("%d:%d", x.number, x.voted))
	}
	return strings.Join(s, " ")
}

// told: the greatest view, and behind it each view that was entered, with what was voted in it.
func told(p *past.Past) string {
	s := []string{fmt.Sprint(p.Greatest())}
	for _, v := range p.Entered() {
		long, ok := p.Voted(v)
		if !ok {
			return fmt.Sprintf("Voted(%d) = %d, %v, though it was entered", v, long, ok)
		}
		s = append(s, fmt.Sprintf("%d:%d", v, long))
	}
	return strings.Join(s, " ")
}

// call of a past, and whether it counts.
type call struct {
	of   string
	v, k uint64
	num  int
	want bool
}

func change(v uint64, want bool) call          { return call{of: "Change", v: v, want: want} }
func enter(v uint64, long int, want bool) call { return call{of: "Enter", v: v, num: long, want: want} }
func prepare(v uint64, want bool) call         { return call{of: "Prepare", v: v, want: want} }
func commit(v, k uint64, most int, want bool) call {
	return call{of: "Commit", v: v, k: k, num: most, want: want}
}

// String: as it is written.
func (c call) String() string {
	switch c.of {
	case "Enter":
		return fmt.Sprintf("P14.1: Enter(%d, %d)", c.v, c.num)
	case "Commit":
		return fmt.Sprintf("P14.2: Commit(%d, %d, %d)", c.v, c.k, c.num)
	case "Prepare":
		return fmt.Sprintf("P14.2: Prepare(%d)", c.v)
	}
	return fmt.Sprintf("P14.1: Change(%d)", c.v)
}

// do: what a past answers.
func (c call) do(p *past.Past) bool {
	switch c.of {
	case "Enter":
		return p.Enter(c.v, c.num)
	case "Commit":
		return p.Commit(c.v, c.k, c.num)
	case "Prepare":
		return p.Prepare(c.v)
	}
	return p.Change(c.v)
}

// byWords: what the chapter's words say.
func (c call) byWords(p *plain) bool {
	switch c.of {
	case "Enter":
		return p.enter(c.v, c.num)
	case "Commit":
		return p.commit(c.v, c.k, c.num)
	case "Prepare":
		return p.prepare(c.v)
	}
	return p.change(c.v)
}

// held is a past, and a plain one to which the same is done.
type held struct {
	t   *testing.T
	p   *past.Past
	was plain
}

// fresh: a new past, at which nothing was done.
func fresh(t *testing.T) *held {
	t.Helper()
	p := past.New()
	if p == nil {
		t.Fatal("P14.1: New answers no past")
	}
	h := &held{t: t, p: p, was: plain{entered: []view{{0, 0}}}}
	h.is("New")
	return h
}

// does: these calls, each as it says. What does not count turns nothing, and what was voted never falls.
func (h *held) does(list ...call) *held {
	h.t.Helper()
	for _, c := range list {
		before := h.was.String()
		if c.byWords(&h.was) != c.want {
			h.t.Fatalf("the test is wrong: %v behind %s", c, before)
		}
		if got := c.do(h.p); got != c.want {
			h.t.Errorf("%v behind %s = %v and not %v", c, before, got, c.want)
		}
		if c.want == (h.was.String() == before) {
			h.t.Fatalf("the test is wrong: %v behind %s turns to %v", c, before, &h.was)
		}
		h.is(c.String() + " behind " + before)
	}
	return h
}

// is fails unless the past tells what the plain one does, of the views that were entered and of others.
func (h *held) is(name string) {
	h.t.Helper()
	if got, want := told(h.p), h.was.String(); got != want {
		h.t.Errorf("P14.3: behind %s: %q and not %q", name, got, want)
	}
	near := h.was.greatest()
	for _, v := range []uint64{0, 1, 2, 3, 4, 5, 6, 7, near - 1, near, near + 1, 1<<30 - 1, 1 << 30, 1<<32 + near, 1 << 63, math.MaxUint64} {
		var long int
		x := h.was.find(v)
		if x != nil {
			long = x.voted
		}
		if got, ok := h.p.Voted(v); got != long || ok != (x != nil) {
			h.t.Errorf("P14.3: behind %s: Voted(%d) = %d, %v and not %d, %v", name, v, got, ok, long, x != nil)
		}
	}
}

// ends fails unless that is what the past tells at the end.
func (h *held) ends(want string) {
	h.t.Helper()
	if got := told(h.p); got != want {
		h.t.Errorf("P14.3: at the end %q and not %q", got, want)
	}
}

// some: one of these.
func some[T any](r *rand.Rand, l ...T) T { return l[r.Intn(len(l))] }

// anyView: mostly near those that matter.
func anyView(r *rand.Rand, p *plain) uint64 {
	last, greatest := p.entered[len(p.entered)-1].number, p.greatest()
	return some(r, greatest, greatest, greatest, last, last-1, greatest-1, greatest+1, greatest+uint64(r.Intn(9)), some(r, p.entered...).number, uint64(r.Intn(12)),
		some[uint64](r, 1<<30-1, 1<<30, 1<<30+1, math.MaxUint64, greatest+1<<32, r.Uint64()))
}

// anyLong: mostly few.
func anyLong(r *rand.Rand) int {
	return some(r, 0, 1, r.Intn(9), r.Intn(1000), -1, -r.Intn(1000), some(r, math.MaxInt, math.MaxInt-1, math.MinInt, 1<<32))
}

// anyCall: of any kind, at about what would count.
func anyCall(r *rand.Rand, p *plain) call {
	v, k := anyView(r, p), uint64(0)
	if x := p.find(v); x != nil {
		k = uint64(x.voted)
	}
	k += some[uint64](r, 0, 1, 1, 1, 1, 2, math.MaxUint64, 1+1<<32)
	most := int(k) + some(r, 0, 0, 1, 5, -1, -2)
	switch r.Intn(12) {
	case 0:
		return change(v, false)
	case 1:
		return enter(v, anyLong(r), false)
	case 2, 3, 4, 5:
		return prepare(v, false)
	}
	return commit(v, k, some(r, most, most, most, most, anyLong(r)), false)
}

// P14.1, P14.2, P14.3: any calls in any order, each answer held against the chapter's words.
func TestAnyCalls(t *testing.T) {
	counts, not := map[string]int{}, map[string]int{}
	for seed := range int64(400) {
		r := rand.New(rand.NewSource(seed))
		h := fresh(t)
		for i := range 100 {
			c := anyCall(r, &h.was)
			if c.v >= 1<<29 && r.Intn(20) > 0 { // behind a view that is near the last one little would count
				continue
			}
			copied := plain{entered: slices.Clone(h.was.entered), changes: slices.Clone(h.was.changes)}
			c.want = c.byWords(&copied)
			if h.does(c); c.want {
				counts[c.of]++
			} else {
				not[c.of]++
			}
			if t.Failed() {
				t.Fatalf("seed %d, call %d", seed, i)
			}
		}
	}
	for _, of := range []string{"Change", "Enter", "Prepare", "Commit"} {
		if counts[of] < 500 || not[of] < 500 {
			t.Errorf("%s counts only %d times, and does not %d times", of, counts[of], not[of])
		}
	}
}

// votes: what was voted in each view that was entered.
func votes(p *past.Past) map[uint64]int {
	all := map[uint64]int{}
	for _, v := range p.Entered() {
		all[v], _ = p.Voted(v)
	}
	return all
}

// P14.4: behind a Change nothing that was voted below it is turned any more; and what was voted never falls, whatever is called.
func TestVotesStay(t *testing.T) {
	behind, risen := 0, 0
	for seed := range int64(200) {
		r := rand.New(rand.NewSource(1000 + seed))
		h := fresh(t)
		var kept map[uint64]int // what was voted below the last Change that counted
		for i := range 100 {
			c := anyCall(r, &h.was)
			if c.v >= 1<<29 {
				continue
			}
			before := votes(h.p)
			c.byWords(&h.was)
			if counts := c.do(h.p); counts && c.of == "Change" {
				kept = before
			}
			now := votes(h.p)
			for v, long := range before {
				if now[v] < long {
					t.Errorf("P14.4: %v: of the view %d %d were voted, and now %d", c, v, long, now[v])
				}
			}
			for v, long := range kept {
				if behind++; now[v] != long {
					t.Errorf("P14.4: %v: behind a Change %d and not %d were voted in the view %d", c, now[v], long, v)
				}
			}
			if !reflect.DeepEqual(now, before) {
				risen++
			}
			if t.Failed() {
				t.Fatalf("seed %d, call %d", seed, i)
			}
		}
	}
	if behind < 10000 || risen < 1000 {
		t.Errorf("only %d looks behind a Change, and %d calls that turned a vote", behind, risen)
	}
}
