package past_test

import (
	"fmt"
	"math"
	"slices"
	"testing"

	"ratchet/past"
)

// last is the greatest view that there may be.
const last = 1<<30 - 1

// P14.1, P14.3: of New view 0 is entered, with 0 as what was voted in it, and is the greatest; whatever is done elsewhere.
func TestNew(t *testing.T) {
	h, other := fresh(t), fresh(t)
	h.ends("0 0:0")
	h.does(prepare(0, true), change(3, true), enter(5, 2, true))
	other.is("another one's calls")
	other.ends("0 0:0")
	fresh(t).ends("0 0:0")
	other.does(commit(0, 1, 1, true))
	h.ends("5 0:1 5:2")
}

// P14.1, P14.2: the chapter's examples.
func TestExamples(t *testing.T) {
	h := fresh(t).does(commit(0, 1, 1, true), change(2, true), commit(0, 2, 5, false), enter(1, 0, false), enter(2, 1, true), commit(2, 2, 2, true))
	h.ends("2 0:1 2:2")
}

// P14.1: a Change counts above the greatest, of Changes and of what was entered, and below MaxView.
func TestChange(t *testing.T) {
	fresh(t).does(change(0, false), change(1, true), change(1, false), change(0, false), change(2, true)).ends("2 0:0")
	fresh(t).does(change(7, true), change(6, false), change(7, false), change(1, false), change(8, true), change(900, true)).ends("900 0:0")
	fresh(t).does(enter(5, 3, true), change(5, false), change(4, false), change(0, false), change(6, true)).ends("6 0:0 5:3")
	fresh(t).does(change(4, true), enter(6, 0, true), change(4, false), change(5, false), change(6, false), change(7, true)).ends("7 0:0 6:0")
	fresh(t).does(change(4, true), enter(4, 0, true), change(4, false), change(5, true)).ends("5 0:0 4:0")
}

// P14.1: a Change to the last view there is counts, and to none above it.
func TestChangeAtMaxView(t *testing.T) {
	fresh(t).does(change(last-1, true), change(last, true), change(last, false), change(last-1, false), change(last+1, false)).ends("1073741823 0:0")
	for _, v := range []uint64{last + 1, last + 2, 1 << 31, 1 << 32, 1<<32 + 1, 1 << 63, math.MaxUint64} {
		fresh(t).does(change(v, false), change(1, true), change(v, false)).ends("1 0:0")
		fresh(t).does(change(last, true), change(v, false)).ends("1073741823 0:0")
	}
}

// P14.1: a Change alone enters nothing: nothing is voted in its view.
func TestChangeEntersNothing(t *testing.T) {
	h := fresh(t).does(change(3, true))
	if long, ok := h.p.Voted(3); long != 0 || ok {
		t.Errorf("P14.3: Voted(3) = %d, %v behind a Change alone", long, ok)
	}
	h.does(prepare(3, false), commit(3, 1, 1, false), commit(3, 0, 0, false), prepare(0, false))
	h.does(enter(3, 0, true), prepare(3, true)).ends("3 0:0 3:1")
}

// P14.1: Enter counts above all that were entered, and not below the greatest.
func TestEnter(t *testing.T) {
	fresh(t).does(enter(0, 0, false), enter(0, 1, false), enter(1, 0, true), enter(1, 0, false), enter(1, 1, false), enter(0, 5, false), enter(2, 0, true)).ends("2 0:0 1:0 2:0")
	fresh(t).does(enter(5, 1, true), enter(3, 0, false), enter(4, 0, false), enter(5, 0, false), enter(6, 0, true), enter(900, 4, true), enter(7, 0, false)).ends("900 0:0 5:1 6:0 900:4")
	fresh(t).does(change(5, true), enter(4, 0, false), enter(1, 0, false), enter(0, 0, false), enter(5, 2, true), enter(5, 3, false), enter(6, 0, true)).ends("6 0:0 5:2 6:0")
	fresh(t).does(change(5, true), enter(6, 1, true), enter(5, 1, false), enter(6, 1, false)).ends("6 0:0 6:1")
	fresh(t).does(enter(2, 0, true), change(5, true), enter(2, 0, false), enter(3, 0, false), enter(4, 0, false), enter(5, 0, true)).ends("5 0:0 2:0 5:0")
	fresh(t).does(change(3, true), change(5, true), enter(3, 0, false), enter(5, 0, true)).ends("5 0:0 5:0")
}

// P14.1: Enter of the last view there is counts, and of none above it.
func TestEnterAtMaxView(t *testing.T) {
	fresh(t).does(enter(last-1, 0, true), enter(last, 1, true), enter(last, 1, false), enter(last-1, 0, false), enter(last+1, 0, false)).ends("1073741823 0:0 1073741822:0 1073741823:1")
	fresh(t).does(change(last, true), enter(last+1, 0, false), enter(last-1, 0, false), enter(last, 0, true)).ends("1073741823 0:0 1073741823:0")
	for _, v := range []uint64{last + 1, last + 2, 1 << 31, 1 << 32, 1<<32 + 1, 1 << 63, math.MaxUint64} {
		fresh(t).does(enter(v, 0, false), enter(v, 1, false), enter(v, -1, false), enter(1, 0, true), enter(v, 0, false)).ends("1 0:0 1:0")
		fresh(t).does(enter(last, 0, true), enter(v, 0, false)).ends("1073741823 0:0 1073741823:0")
	}
}

// P14.1: what was voted in a view that is entered is 0 or more.
func TestEnterWithLong(t *testing.T) {
	for _, long := range []int{-1, -2, -1 << 31, math.MinInt} {
		fresh(t).does(enter(1, long, false), prepare(0, true), enter(0, long, false), enter(1, 0, true)).ends("1 0:1 1:0")
		fresh(t).does(change(3, true), enter(3, long, false), prepare(3, false), enter(last+1, long, false)).ends("3 0:0")
	}
	for _, long := range []int{0, 1, 2, 1000, 1 << 31, 1 << 32, math.MaxInt} {
		fresh(t).does(enter(4, long, true)).ends(fmt.Sprintf("4 0:0 4:%d", long))
		fresh(t).does(change(4, true), enter(4, long, true), enter(4, long, false), enter(5, 0, true)).ends(fmt.Sprintf("5 0:0 4:%d 5:0", long))
	}
}

// notOpen: pasts of which none has the view 3 open, by why.
func notOpen(t *testing.T) map[string]*held {
	return map[string]*held{
		"never entered":         fresh(t),
		"above the greatest":    fresh(t).does(enter(2, 0, true)),
		"changed to":            fresh(t).does(change(3, true)),
		"below a Change":        fresh(t).does(change(4, true)),
		"between two":           fresh(t).does(enter(2, 0, true), enter(4, 0, true)),
		"closed by a Change":    fresh(t).does(enter(3, 0, true), change(4, true)),
		"closed by two Changes": fresh(t).does(enter(3, 0, true), change(4, true), change(9, true)),
		"closed by an Enter":    fresh(t).does(enter(3, 0, true), enter(4, 0, true)),
		"closed by both":        fresh(t).does(enter(3, 0, true), change(4, true), enter(4, 0, true)),
		"closed, with votes":    fresh(t).does(enter(3, 0, true), prepare(3, true), prepare(3, true), enter(4, 0, true)),
		"closed, with a long":   fresh(t).does(change(3, true), enter(3, 7, true), change(4, true)),
	}
}

// P14.2: nothing is voted in a view that was never entered, nor in one that is no more the greatest.
func TestNotOpen(t *testing.T) {
	for name, h := range notOpen(t) {
		before := told(h.p)
		h.does(prepare(3, false))
		for k := uint64(0); k < 10; k++ {
			h.does(commit(3, k, int(k), false), commit(3, k, 100, false), commit(3, k, -1, false))
		}
		if got := told(h.p); got != before {
			t.Errorf("P14.2: a view that is %s: %q and not %q", name, got, before)
		}
	}
	fresh(t).does(prepare(1, false), prepare(1<<32, false), prepare(math.MaxUint64, false), commit(1<<32, 1, 1, false), commit(math.MaxUint64, 1, 1, false)).ends("0 0:0")
}

// P14.2: each Prepare in the open view makes what was voted one more, and none elsewhere.
func TestPrepare(t *testing.T) {
	fresh(t).does(prepare(0, true), prepare(0, true), prepare(1, false), prepare(0, true)).ends("0 0:3")
	fresh(t).does(prepare(0, true), change(2, true), prepare(0, false), prepare(2, false), enter(2, 5, true), prepare(2, true), prepare(0, false), prepare(2, true)).ends("2 0:1 2:7")
	fresh(t).does(prepare(0, true), enter(1, 0, true), prepare(0, false), prepare(1, true), enter(2, 9, true), prepare(1, false), prepare(2, true)).ends("2 0:1 1:1 2:10")
	fresh(t).does(enter(last, 1, true), prepare(last, true), prepare(last+1, false)).ends("1073741823 0:0 1073741823:2")
	h := fresh(t)
	for range 1000 {
		h.does(prepare(0, true))
	}
	h.ends("0 0:1000")
}

// P14.2: Commit counts, if k is one more than what was voted.
func TestCommitK(t *testing.T) {
	for _, k := range []uint64{0, 2, 3, 1<<32 + 1, 1<<63 + 1, math.MaxUint64} {
		fresh(t).does(commit(0, k, 5, false), commit(0, k, math.MaxInt, false), commit(0, k, int(k), false), commit(0, 1, 5, true)).ends("0 0:1")
	}
	for _, k := range []uint64{0, 1, 2, 3, 5, 6, 4 + 1<<32, 4 + 1<<63, math.MaxUint64 - 3, math.MaxUint64} {
		fresh(t).does(enter(2, 3, true), commit(2, k, 9, false), commit(2, k, math.MaxInt, false), commit(2, 4, 9, true), commit(2, 4, 9, false), commit(2, 3, 9, false), commit(2, 6, 9, false), commit(2, 5, 9, true)).ends("2 0:0 2:5")
	}
	fresh(t).does(enter(last, 1, true), commit(last, 2, 2, true), commit(last+1, 3, 3, false)).ends("1073741823 0:0 1073741823:2")
}

// P14.2: Commit counts, if k is at most most.
func TestCommitMost(t *testing.T) {
	for _, most := range []int{-1, -2, -1 << 31, math.MinInt, 0} {
		fresh(t).does(commit(0, 0, most, false), commit(0, 1, most, false), commit(0, 2, most, false), commit(0, uint64(most), most, false)).ends("0 0:0")
		fresh(t).does(enter(1, 3, true), commit(1, 4, most, false)).ends("1 0:0 1:3")
	}
	for _, most := range []int{1, 2, 3, 100, 1 << 32, math.MaxInt} {
		fresh(t).does(commit(0, 1, most, true)).ends("0 0:1")
	}
	fresh(t).does(enter(2, 3, true), commit(2, 4, 2, false), commit(2, 4, 3, false), commit(2, 4, 4, true), commit(2, 5, 4, false), commit(2, 5, 6, true)).ends("2 0:0 2:5")
	fresh(t).does(commit(0, 1, 1, true), commit(0, 2, 1, false), commit(0, 2, 2, true), commit(0, 3, 2, false), commit(0, 3, math.MaxInt, true)).ends("0 0:3")
}

// P14.2: Prepare and Commit go on from each other, and from the long with which a view was entered.
func TestVotesGoOn(t *testing.T) {
	fresh(t).does(prepare(0, true), commit(0, 1, 9, false), commit(0, 2, 2, true), prepare(0, true), commit(0, 3, 9, false), commit(0, 4, 4, true)).ends("0 0:4")
	for _, long := range []int{0, 1, 7, 1 << 32} {
		k := uint64(long)
		h := fresh(t).does(prepare(0, true), prepare(0, true), change(1, true), enter(1, long, true), commit(1, 3, 9, long == 2))
		h.does(commit(1, k+1, long, false), commit(1, k+1, long+1, true), prepare(1, true), commit(1, k+3, long+2, false), commit(1, k+3, long+4, true))
		h.ends(fmt.Sprintf("1 0:2 1:%d", long+3))
	}
}

// P14.4: what was voted never falls, at the greatest number that there is neither.
func TestVotesAtTheEnd(t *testing.T) {
	fresh(t).does(enter(1, math.MaxInt-1, true), prepare(1, true), prepare(1, false), commit(1, 1<<63, math.MaxInt, false)).ends(fmt.Sprintf("1 0:0 1:%d", math.MaxInt))
	fresh(t).does(enter(1, math.MaxInt-1, true), commit(1, math.MaxInt, math.MaxInt-1, false), commit(1, math.MaxInt, math.MaxInt, true), commit(1, 1<<63, -1, false), prepare(1, false), enter(2, 0, true), prepare(2, true)).ends(fmt.Sprintf("2 0:0 1:%d 2:1", math.MaxInt))
	fresh(t).does(enter(1, math.MaxInt, true), commit(1, 1<<63, math.MinInt, false), commit(1, 0, 0, false), prepare(1, false), change(2, true)).ends(fmt.Sprintf("2 0:0 1:%d", math.MaxInt))
}

// P14.4: behind a Change what was voted below it stays, whatever is called there.
func TestBehindAChange(t *testing.T) {
	h := fresh(t).does(prepare(0, true), enter(2, 4, true), commit(2, 5, 5, true), enter(3, 1, true), prepare(3, true), change(7, true))
	for v := range uint64(7) {
		h.does(prepare(v, false), enter(v, 9, false), change(v, false))
		for k := range uint64(9) {
			h.does(commit(v, k, 9, false))
		}
	}
	h.ends("7 0:1 2:5 3:2")
	h.does(enter(7, 3, true), prepare(7, true), prepare(3, false), commit(2, 6, 9, false)).ends("7 0:1 2:5 3:2 7:4")
}

// P14.3: Entered tells all views that were entered, rising, and none else.
func TestEntered(t *testing.T) {
	h := fresh(t)
	want := []uint64{0}
	for v := uint64(3); v < 3000; v += 3 {
		h.p.Change(v - 1)
		if !h.p.Enter(v, int(v)) {
			t.Fatalf("P14.1: Enter(%d, %d) does not count", v, v)
		}
		want = append(want, v)
	}
	if got := h.p.Entered(); !slices.Equal(got, want) {
		t.Errorf("P14.3: Entered = %v and not %v", got, want)
	}
	for v := range uint64(3003) {
		long := 0
		was := v%3 == 0 && v < 3000
		if was {
			long = int(v)
		}
		if got, ok := h.p.Voted(v); got != long || ok != was {
			t.Errorf("P14.3: Voted(%d) = %d, %v and not %d, %v", v, got, ok, long, was)
		}
	}
}

// P14.3, R3: the list that Entered tells is memory of its own.
func TestEnteredIsItsOwn(t *testing.T) {
	h := fresh(t)
	var lists [][]uint64
	for v := uint64(1); v < 20; v++ {
		one, two := h.p.Entered(), h.p.Entered()
		for i := range one {
			one[i] = 99
		}
		if one = append(one, 98); two[0] != 0 {
			t.Errorf("R3: two lists of Entered share their memory")
		}
		h.is("a list that was turned")
		h.does(change(v, true), enter(v, 0, true), prepare(v, true))
		two = append(two, 97)
		h.is("a list that was made longer")
		if lists = append(lists, h.p.Entered()); one[len(one)-1] != 98 || two[len(two)-1] != 97 {
			t.Errorf("R3: an Enter turns a list that Entered told: %v, %v", one, two)
		}
	}
	for i, l := range lists {
		if len(l) != i+2 || l[0] != 0 || l[i+1] != uint64(i+1) {
			t.Errorf("R3: a list of Entered turned: %v", l)
		}
	}
}

// R4: of no past nothing counts, and all is 0, none, false.
func TestNoPast(t *testing.T) {
	var p *past.Past
	for _, v := range []uint64{0, 1, last, last + 1, math.MaxUint64} {
		for _, num := range []int{math.MinInt, -1, 0, 1, 2, math.MaxInt} {
			if p.Change(v) || p.Enter(v, num) || p.Prepare(v) || p.Commit(v, 1, num) || p.Commit(v, uint64(num), num) {
				t.Errorf("P14.1, P14.2: of no past something of the view %d counts", v)
			}
		}
		if long, ok := p.Voted(v); long != 0 || ok {
			t.Errorf("P14.3: Voted(%d) of no past = %d, %v", v, long, ok)
		}
	}
	if p.Greatest() != 0 || len(p.Entered()) != 0 {
		t.Errorf("P14.3: of no past Greatest = %d, Entered = %v", p.Greatest(), p.Entered())
	}
}

// R1: no call panics, of a past that New did not make either.
func TestPastOfNoNew(t *testing.T) {
	for _, c := range []call{change(1, false), enter(0, 0, false), enter(1, 1, false), prepare(0, false), commit(0, 1, 1, false)} {
		p := &past.Past{}
		c.do(p)
		told(p)
		p.Voted(c.v)
	}
}
