package wait_test

import (
	"fmt"
	"slices"
	"strings"
	"testing"

	"ratchet/api"
	"ratchet/lore"
	"ratchet/message"
	"ratchet/tag"
	"ratchet/wait"
)

// tagged: a message with the tag that its replica's counter gives it.
func tagged(m api.Message) api.Message {
	m.Tag = tag.Numbered(m.Origin, m.Number, message.Bytes(m))
	return m
}

// vec: what is known of the replicas from 1 on.
func vec(known ...uint64) api.Vector {
	var v api.Vector
	copy(v[:], known)
	return v
}

// says: a message of a replica, tagged, which knew that much. Of itself it knows all that it said ahead.
func says(origin int, number uint64, knew ...uint64) api.Message {
	m := api.Message{Origin: origin, Number: number, Deps: vec(knew...), Body: api.Body{Kind: api.KCommit, K: 1}}
	m.Deps[origin-1] = number - 1
	return tagged(m)
}

// with: the same message with another body, tagged.
func with(m api.Message, x api.Body) api.Message {
	m.Body = x
	return tagged(m)
}

// unlike: another message of the same Origin and Number, and of as much knowledge.
func unlike(m api.Message) api.Message { return with(m, api.Body{Kind: api.KChange, View: 7}) }

// spoilt: a message with a tag that is none.
func spoilt(m api.Message) api.Message {
	m.Tag[31] ^= 1
	return m
}

// begins: a view begins by Changes of these replicas.
func begins(replicas ...int) api.Body {
	x := api.Body{Kind: api.KNewView, View: 1}
	for _, i := range replicas {
		x.Q = append(x.Q, api.Pair{Replica: i, Number: 1})
	}
	return x
}

// names: of whom messages are, and their numbers.
func names(l []api.Message) string {
	var s []string
	for _, m := range l {
		s = append(s, fmt.Sprintf("%d/%d", m.Origin, m.Number))
	}
	return strings.Join(s, " ")
}

// taking: a lore of n replicas that took these.
func taking(t *testing.T, n int, list ...api.Message) *lore.Lore {
	t.Helper()
	l, e := lore.New(n)
	for _, m := range list {
		if e == api.OK {
			e = l.Add(m)
		}
	}
	if e != api.OK {
		t.Fatalf("a lore of %d takes %s not: %d", n, names(list), e)
	}
	return l
}

// knowing: a lore of n replicas that knows so many of each, all of which knew nothing of others.
func knowing(t *testing.T, n int, known ...uint64) *lore.Lore {
	t.Helper()
	var list []api.Message
	for i, count := range known {
		for number := uint64(1); number <= count; number++ {
			list = append(list, says(i+1, number))
		}
	}
	return taking(t, n, list...)
}

// story: what three replicas said; 3, 2 and 1 messages.
func story() []api.Message {
	return []api.Message{says(1, 1), says(2, 1, 1), says(1, 2, 0, 1), says(3, 1, 2, 1), says(2, 2, 2, 0, 1), says(1, 3, 0, 2, 1)}
}

// row: messages of one replica, of these numbers.
func row(origin int, numbers ...uint64) []api.Message {
	var l []api.Message
	for _, number := range numbers {
		l = append(l, says(origin, number))
	}
	return l
}

// P13.1: of New nothing waits, whatever waits elsewhere.
func TestNew(t *testing.T) {
	for n := 3; n <= 11; n += 2 {
		l := knowing(t, n)
		h, other := fresh(t), fresh(t)
		h.next("nothing waits", l, "")
		h.next("nothing waits, again", knowing(t, n, 2, 1), "")
		h.put("the first", l, says(n, 1), api.OK)
		other.is("of another one")
		other.next("of another one", l, "")
		h.next("the first", l, fmt.Sprintf("%d/1", n))
		h.next("no more", l, "")
	}
}

// The chapter's example.
func TestExample(t *testing.T) {
	l, h := knowing(t, 3), fresh(t)
	h.put("the second", l, says(1, 2), api.OK)
	h.next("the second", l, "")
	h.put("the first", l, says(1, 1), api.OK)
	h.next("the first", l, "1/1")
	if e := l.Add(says(1, 1)); e != api.OK {
		t.Fatalf("Add = %d", e)
	}
	h.next("the second", l, "1/2")
	h.next("none", l, "")
}

// mayNot: messages that may not be, or that name a replica above 3; all are ErrArg.
func mayNot() map[string]api.Message {
	noOrigin, first, high := says(1, 1), says(1, 1), says(1, 4, 0, 2, 1)
	noOrigin.Origin, first.Number, high.Deps[1] = 0, 0, api.MaxNumber+1
	return map[string]api.Message{
		"no message":                  {},
		"no Origin":                   tagged(noOrigin),
		"the Number 0":                tagged(first),
		"a Number above MaxNumber":    says(1, api.MaxNumber+1),
		"Deps above MaxNumber":        tagged(high),
		"a body that may not be":      with(says(1, 4, 0, 2, 1), api.Body{Kind: api.KCommit}),
		"an Origin above n":           says(4, 1),
		"a Q of one above n":          with(says(1, 4, 0, 2, 1), begins(4)),
		"Deps of one above n":         says(1, 4, 0, 2, 1, 1),
		"Deps of one above n, known":  says(1, 1, 0, 0, 0, 1),
		"Deps of one above n, later":  says(1, 9, 9, 9, 9, 9),
		"an Origin above n, later":    says(11, 2),
		"a Q of one above n, later":   with(says(1, 9, 0, 2, 1), begins(1, 4)),
		"a body that may not, later":  with(says(1, 9, 0, 2, 1), api.Body{}),
		"an Origin above n, no order": says(5, 3, 9, 9, 9),
	}
}

// refused fails unless a message has that answer, whatever waits: nothing, that message or an unlike one, eleven others below, above, or around it. Nothing has turned then.
func refused(t *testing.T, name string, l *lore.Lore, m api.Message, want api.Errno) {
	t.Helper()
	fresh(t).put(name, l, m, want)
	waiting(t, knowing(t, 3), row(1, 1, 2, 3, 4, 9)...).put(name+", known already", l, m, want)
	for i := 1; i <= 3; i++ {
		waiting(t, knowing(t, 3), row(i, 1, 2, 3, 4, 5, 6, 7, 8, 9, 10, 11)...).put(name+", no room", l, m, want)
		waiting(t, knowing(t, 3), row(i, 5, 6, 7, 8, 10, 11, 12, 13, 14, 15, 16)...).put(name+", in between", l, m, want)
		waiting(t, knowing(t, 3), row(i, 30, 31, 32, 33, 34, 35, 36, 37, 38, 39, 1<<16)...).put(name+", below", l, m, want)
	}
}

// P13.1: what lore.Check says is told ahead of ErrAgain and of ErrFull, unless it is OK or ErrOrder; the message does not wait then.
func TestRefused(t *testing.T) {
	l := taking(t, 3, story()...)
	for name, m := range mayNot() {
		refused(t, name, l, m, api.ErrArg)
		refused(t, name+", and no tag", l, spoilt(m), api.ErrArg)
	}
	for _, m := range []api.Message{says(1, 4, 0, 2, 1), says(1, 1), says(1, 3, 0, 2, 1), says(1, 4), says(1, 5), says(1, 1<<16, 9, 9, 9), says(2, 3, 3, 0, 1), says(3, 9)} {
		refused(t, "a wrong tag", l, spoilt(m), api.ErrTag)
		m.Tag = [32]byte{}
		refused(t, "no tag", l, m, api.ErrTag)
	}
	for _, m := range story() {
		refused(t, "one that is known", l, m, api.ErrAgain)
		refused(t, "another of a known Number", l, unlike(m), api.ErrAgain)
	}
	for _, m := range []api.Message{says(1, 4), says(1, 4, 0, 1, 1), says(1, 4, 0, 9, 0), says(2, 3, 1, 0, 1), says(3, 2, 2, 0)} {
		refused(t, "Deps below", l, m, api.ErrArg)
	}
}

// P13.1: OK and ErrOrder wait, however far off their time is; so does what could be taken at once.
func TestWaits(t *testing.T) {
	l := taking(t, 3, story()...)
	for _, u := range []struct {
		m    api.Message
		next bool
	}{
		{says(1, 4, 0, 2, 1), true},
		{says(2, 3, 2, 0, 1), true},
		{says(3, 2, 3, 2), true},
		{with(says(3, 2, 3, 2), begins(1, 2, 3)), true},
		{with(says(3, 2, 3, 2), api.Body{Kind: api.KPrepare, Request: message.Signed(api.Request{Client: 1, Time: 1, Op: api.Op{Kind: api.OpPut, Key: "a", Value: "1"}})}), true},
		{says(1, 5, 0, 2, 1), false},
		{says(1, 5), false},
		{says(1, 4, 0, 3, 1), false},
		{says(1, 4, 0, 1<<8+2, 1), false},
		{says(3, 3), false},
		{says(2, 1<<8+3, 3, 0, 1<<8), false},
	} {
		h := waiting(t, l, u.m)
		if l.Known() != vec(3, 2, 1) || h.w.Len() != 1 {
			t.Errorf("P13.1: behind %d/%d Known, Len = %v, %d", u.m.Origin, u.m.Number, l.Known(), h.w.Len())
		}
		if u.next {
			h.next("at once", l, names([]api.Message{u.m}))
		}
		h.next("no more", l, "")
		h.drain("later")
	}
}

// P13.1: the last Number that may be waits too, by itself and with all that may be known.
func TestFarOff(t *testing.T) {
	l := knowing(t, 3)
	h := waiting(t, l, says(1, 1<<16), says(2, 1<<16, 1<<16, 0, 1<<16), says(3, 1, 1<<16, 1<<16))
	h.next("not yet", l, "")
	h.put("one more", l, says(2, 1<<16+1), api.ErrArg)
	h.put("Deps of one more", l, says(3, 2, 1<<16+1), api.ErrArg)
	h.put("the same", l, says(1, 1<<16), api.ErrAgain)
}

// P13.1: one of an Origin and Number waits; another one, the same or not, is ErrAgain, and the first one stays.
func TestAgain(t *testing.T) {
	l := knowing(t, 3, 1)
	first := []api.Message{says(1, 2), says(1, 3), says(2, 1, 1), with(says(3, 2), begins(1, 2))}
	h := waiting(t, l, first...)
	for _, m := range first {
		low, high := says(m.Origin, m.Number), says(m.Origin, m.Number, 9, 9, 9)
		for _, other := range []api.Message{m, unlike(m), low, high, with(m, begins(2, 3))} {
			h.put("again", l, other, api.ErrAgain)
		}
	}
	h.put("its Number, of another Origin", l, says(2, 2), api.OK)
	h.put("its Origin, of another Number", l, says(3, 3), api.OK)
	h.drain("the first ones")
}

// P13.1: where eleven wait, one that waits already is ErrAgain, the greatest one too, and lets none go.
func TestAgainWithoutRoom(t *testing.T) {
	l := knowing(t, 3)
	h := waiting(t, l, row(2, 1, 2, 3, 4, 5, 6, 7, 8, 9, 10, 11)...)
	for number := uint64(1); number <= 11; number++ {
		h.put("the same", l, says(2, number), api.ErrAgain)
		h.put("another one", l, unlike(says(2, number)), api.ErrAgain)
	}
	h.drain("the first ones")
}

// rows: eleven even numbers from 10 to 30, in all kinds of orders.
func rows() [][]uint64 {
	rising := []uint64{10, 12, 14, 16, 18, 20, 22, 24, 26, 28, 30}
	falling := slices.Clone(rising)
	slices.Reverse(falling)
	return [][]uint64{rising, falling,
		{20, 22, 18, 30, 10, 24, 16, 28, 12, 26, 14},
		{12, 30, 14, 16, 18, 20, 22, 24, 26, 28, 10},
		{10, 14, 12, 20, 28, 30, 26, 24, 22, 18, 16}}
}

// P13.1: the eleventh of an Origin waits, whatever its Number is; the twelfth is ErrFull above all, and else lets the greatest go.
func TestRoom(t *testing.T) {
	for i := 1; i <= 11; i++ {
		for _, numbers := range rows() {
			l := knowing(t, 11)
			h := waiting(t, l, row(i, numbers...)...)
			if h.w.Len() != 11 {
				t.Fatalf("P13.1: %d of the replica %d wait", h.w.Len(), i)
			}
			h.put("just above all", l, says(i, 31), api.ErrFull)
			h.put("far above all", l, says(i, api.MaxNumber), api.ErrFull)
			h.put("above all by a byte", l, says(i, 10+1<<8), api.ErrFull)
			h.put("just below the greatest: 30 goes", l, says(i, 29), api.OK)
			h.put("what was let go", l, says(i, 30), api.ErrFull)
			h.put("between: 29 goes", l, says(i, 15), api.OK)
			h.put("what is above all now", l, says(i, 29), api.ErrFull)
			h.put("below all: 28 goes", l, says(i, 9), api.OK)
			h.put("the least: 26 goes", l, says(i, 1), api.OK)
			h.put("between the first ones: 24 goes", l, says(i, 5), api.OK)
			h.put("between the last ones: 22 goes", l, says(i, 19), api.OK)
			h.put("above all", l, says(i, 21), api.ErrFull)
			if got := h.p.numbers(i); !slices.Equal(got, []uint64{1, 5, 9, 10, 12, 14, 15, 16, 18, 19, 20}) {
				t.Fatalf("the test is wrong: %v wait", got)
			}
			h.drain("those that stayed")
		}
	}
}

// P13.1: each that is below all lets one go, until the first eleven wait.
func TestLower(t *testing.T) {
	l := knowing(t, 3)
	h := waiting(t, l, row(3, 90, 91, 92, 93, 94, 95, 96, 97, 98, 99, 100)...)
	for number := uint64(60); number >= 1; number-- {
		h.put("one below", l, says(3, number), api.OK)
	}
	if got := h.p.numbers(3); !slices.Equal(got, []uint64{1, 2, 3, 4, 5, 6, 7, 8, 9, 10, 11}) {
		t.Fatalf("the test is wrong: %v wait", got)
	}
	h.put("above all", l, says(3, 12), api.ErrFull)
	h.drain("the first ones")
}

// P13.1, P13.2: what Next told, or let go, leaves room; what may not wait any more takes it until then.
func TestRoomAnew(t *testing.T) {
	h := waiting(t, knowing(t, 3), row(1, 1, 2, 3, 4, 5, 6, 7, 8, 9, 10, 11)...)
	h.next("one is told", knowing(t, 3), "1/1")
	h.put("the room of one", knowing(t, 3), says(1, 20), api.OK)
	h.put("and no more", knowing(t, 3), says(1, 21), api.ErrFull)
	later := knowing(t, 3, 5)
	h.put("those that are known take it still", later, says(1, 21), api.ErrFull)
	h.put("and are not let go by one below: 20 is", later, says(1, 19), api.OK)
	h.next("four are let go, one is told", later, "1/6")
	for number := uint64(21); number <= 25; number++ {
		h.put("the room of five", later, says(1, number), api.OK)
	}
	h.put("and no more", later, says(1, 26), api.ErrFull)
	h.drain("all of them")
}

// P13.3: each replica has room for eleven, however many of all others wait, and its own alone are let go.
func TestOthersRoom(t *testing.T) {
	for first := range 11 {
		l, h := knowing(t, 11), fresh(t)
		var order []int
		for i := range 11 {
			order = append(order, 1+(first+i)%11)
		}
		for at, i := range order {
			for number := uint64(2); number <= 12; number++ {
				h.put("one of eleven", l, says(i, 2*number), api.OK)
			}
			h.put("the twelfth", l, says(i, 25), api.ErrFull)
			if h.w.Len() != 11*(at+1) {
				t.Fatalf("P13.3: %d wait", h.w.Len())
			}
		}
		for _, i := range order {
			h.put("above all", l, says(i, 25), api.ErrFull)
			h.put("between: the greatest of its own goes", l, says(i, 7), api.OK)
			h.put("below all: the greatest of its own goes", l, says(i, 1), api.OK)
			h.put("what was let go", l, says(i, 24), api.ErrFull)
		}
		for number := uint64(30); number <= 90; number++ {
			h.put("one who says much", l, says(1+first, number), api.ErrFull)
		}
		if h.w.Len() != 121 {
			t.Fatalf("P13.3: %d wait", h.w.Len())
		}
		for i := 1; i <= 11; i++ {
			h.next("all", l, fmt.Sprintf("%d/1", i))
		}
		h.next("no more", l, "")
	}
}

// P13.3: one that has room yet has it, though others' greater or lower ones wait.
func TestAnothersNumbers(t *testing.T) {
	l := knowing(t, 3)
	low, high := row(1, 1, 2, 3, 4, 5, 6, 7, 8, 9, 10, 11), row(2, 50, 51, 52, 53, 54, 55, 56, 57, 58, 59, 60)
	h := waiting(t, l, append(low, high...)...)
	for _, number := range []uint64{30, 70, 20, 1, 1 << 16, 5, 55, 56, 6, 31, 32} {
		h.put("the third one's", l, says(3, number), api.OK)
	}
	h.put("above all others'", l, says(3, 1<<16-1), api.OK) // 1<<16 goes
	h.put("above its own", l, says(3, 1<<16), api.ErrFull)
	h.put("below its own: 1<<16 - 1 goes", l, says(3, 2), api.OK)
	h.put("above the first one's own", l, says(1, 12), api.ErrFull)
	h.put("below the second one's own", l, says(2, 12), api.OK)
}

// P13.2: of those whose time has come the one of the least Origin, in whatever order they came; each once.
func TestLeastOrigin(t *testing.T) {
	l := knowing(t, 11, 4, 0, 7, 2)
	list := []api.Message{says(1, 5), says(2, 1, 4), says(3, 8), says(4, 3), says(7, 1), says(10, 1), says(11, 1, 4, 0, 7, 2)}
	later := []api.Message{says(1, 6), says(5, 1, 5), says(6, 1, 0, 1), says(8, 2), says(10, 2)}
	for turn := range 2 * len(list) {
		order := append(slices.Clone(list[turn%len(list):]), list[:turn%len(list)]...)
		if turn >= len(list) {
			slices.Reverse(order)
		}
		h := waiting(t, l, slices.Concat(later[:turn%5], order, later[turn%5:])...)
		for _, m := range list {
			h.next("the least Origin", l, names([]api.Message{m}))
		}
		h.next("those whose time has not come", l, "")
		h.next("nor has it now", l, "")
		if h.w.Len() != len(later) {
			t.Errorf("P13.2: Len = %d", h.w.Len())
		}
		h.drain("those whose time has not come")
	}
}

// P13.2: as long as nothing can be taken nothing is told, and all wait on.
func TestNotYet(t *testing.T) {
	h := waiting(t, knowing(t, 3), says(1, 2), says(2, 1, 1), says(3, 1, 0, 1), says(3, 5))
	for range 9 {
		h.next("not yet", knowing(t, 3), "")
		h.next("not yet", knowing(t, 11), "")
	}
	h.next("another lore", knowing(t, 3, 1), "1/2")
	h.next("another lore", knowing(t, 3, 1), "2/1")
	h.next("another lore", knowing(t, 3, 1), "")
	h.next("one that knows else", knowing(t, 3, 0, 1, 0), "3/1")
	h.next("one that knows else", knowing(t, 3, 0, 1, 0), "")
	h.next("the last one", knowing(t, 3, 0, 0, 4), "3/5")
}

// P13.2: of one Origin one at a time: the others' time comes as each is taken.
func TestOneByOne(t *testing.T) {
	l := knowing(t, 3, 2)
	h := waiting(t, l, row(1, 7, 4, 3, 6, 5)...)
	for number := uint64(3); number <= 7; number++ {
		h.next("the next one", l, fmt.Sprintf("1/%d", number))
		h.next("the one behind has not come yet", l, "")
		if e := l.Add(says(1, number)); e != api.OK {
			t.Fatalf("Add = %d", e)
		}
	}
	h.next("no more", l, "")
}

// P13.2: as messages are taken those follow that named them, across replicas; the least Origin first.
func TestChain(t *testing.T) {
	l := knowing(t, 3)
	list := story()
	slices.Reverse(list)
	h := waiting(t, l, list...)
	for _, want := range []string{"1/1", "2/1", "1/2", "3/1", "2/2", "1/3"} {
		m, _ := h.p.next(l)
		if got, ok := h.w.Next(l); !ok || !alike(got, m) || names([]api.Message{got}) != want || l.Add(got) != api.OK {
			t.Fatalf("P13.2: Next = %+v, %v and not %s", got, ok, want)
		}
	}
	h.next("no more", l, "")
}

// lets fails unless, by that lore, just these are let go unheard, one is told or none, and all others wait on. That is done often, since a wait might come upon what it has in any order.
func lets(t *testing.T, name string, ahead, l *lore.Lore, list []api.Message, told, stay string) {
	t.Helper()
	for range 20 {
		h := waiting(t, ahead, list...)
		h.next(name, l, told)
		if got := names(h.p.list); got != stay {
			t.Fatalf("the test is wrong: %s: %s wait, and not %s", name, got, stay)
		}
		if told == "" {
			h.next(name+", again", l, "")
		}
		h.drain(name)
	}
}

// P13.2: what the lore would not take now nor later is let go ahead, be something told or not.
func TestLetGo(t *testing.T) {
	none, l := knowing(t, 3), taking(t, 3, story()...)
	lets(t, "known", none, l, story(), "", "")
	lets(t, "known, another", none, l, []api.Message{unlike(says(1, 1)), unlike(says(2, 2)), says(3, 1, 9)}, "", "")
	lets(t, "known, one stays", none, l, []api.Message{says(1, 3), says(1, 5), says(2, 2)}, "", "1/5")
	lets(t, "known, one is told", none, l, []api.Message{says(1, 3), says(1, 4, 0, 2, 1), says(1, 5), says(2, 2), says(3, 1)}, "1/4", "1/5")
	lets(t, "known, a greater Origin is told", none, l, []api.Message{says(1, 1), says(2, 1), says(3, 2, 3, 2), says(3, 1)}, "3/2", "")
	lets(t, "Deps below", none, l, []api.Message{says(1, 4), says(2, 3, 1, 0, 1), says(3, 2, 1, 9)}, "", "")
	lets(t, "Deps below, one stays", none, l, []api.Message{says(1, 4), says(1, 5), says(2, 3, 2, 0, 2)}, "", "1/5 2/3")
	lets(t, "Deps below, one is told", none, l, []api.Message{says(1, 4, 0, 1, 1), says(2, 3, 2, 0, 1), says(3, 2)}, "2/3", "")
	lets(t, "Deps below, the least is told", none, l, []api.Message{says(1, 4, 0, 2, 1), says(2, 3), says(2, 4), says(3, 2)}, "1/4", "2/4")
	five := knowing(t, 5)
	lets(t, "above n", five, none, []api.Message{says(4, 1), says(5, 2), says(1, 1, 0, 0, 0, 0, 1), with(says(2, 1), begins(1, 5))}, "", "")
	lets(t, "above n, one is told", five, none, []api.Message{says(5, 1), says(4, 2), says(3, 1), says(2, 2), says(1, 2, 0, 0, 0, 1)}, "3/1", "2/2")
	lets(t, "both, many are told later", none, l, []api.Message{says(3, 2, 2, 1), says(2, 3, 2, 0, 1), says(1, 4, 0, 2, 1), says(1, 2), says(3, 1)}, "1/4", "3/2 2/3")
}

// P13.2: with the room that all have taken: all but one of each replica are let go at once, and the ones that stay are told.
func TestLetMuchGo(t *testing.T) {
	none, h := knowing(t, 11), fresh(t)
	for i := 1; i <= 11; i++ {
		for number := uint64(1); number <= 11; number++ {
			h.put("all", none, says(i, number), api.OK)
		}
	}
	l := knowing(t, 11, 10, 10, 10, 10, 10, 10, 10, 10, 10, 10, 10)
	h.next("110 are let go", l, "1/11")
	if h.w.Len() != 10 {
		t.Errorf("P13.2: Len = %d", h.w.Len())
	}
	for i := 2; i <= 11; i++ {
		h.next("the others", l, fmt.Sprintf("%d/11", i))
	}
	h.next("no more", l, "")
}

// P13.2: what Next told waits no more: it may be put again, and another of its Number too.
func TestToldNoMore(t *testing.T) {
	l := knowing(t, 3)
	h := waiting(t, l, says(1, 1), says(2, 1))
	h.next("the first", l, "1/1")
	h.next("the other", l, "2/1")
	h.next("none", l, "")
	h.put("once more", l, says(1, 1), api.OK)
	h.put("another one", l, unlike(says(2, 1)), api.OK)
	h.put("it waits again", l, unlike(says(1, 1)), api.ErrAgain)
	h.next("the first", l, "1/1")
	h.next("the other", l, "2/1")
	h.next("none", l, "")
}

// P13.1, P13.2: what was let go may be put again, where a lore lets it.
func TestLetGoNoMore(t *testing.T) {
	none, l := knowing(t, 3), knowing(t, 3, 3)
	h := waiting(t, none, says(1, 2), says(1, 3))
	h.next("both are known", l, "")
	h.put("known", l, says(1, 2), api.ErrAgain)
	h.put("once more", none, unlike(says(1, 2)), api.OK)
	h.put("once more", none, says(1, 2), api.ErrAgain)
	h.drain("once more")
}

// P13.1: Put asks the lore that it is handed, whatever was put by another one.
func TestOtherLores(t *testing.T) {
	h := fresh(t)
	h.put("known", knowing(t, 3, 2), says(1, 2), api.ErrAgain)
	h.put("not yet", knowing(t, 3), says(1, 2), api.OK)
	h.put("known, and it waits", knowing(t, 3, 2), says(1, 2), api.ErrAgain)
	h.put("above n", knowing(t, 3), says(4, 1), api.ErrArg)
	h.put("not above n", knowing(t, 5), says(4, 1), api.OK)
	h.put("above n, and it waits", knowing(t, 3), says(4, 1), api.ErrArg)
	h.put("a wrong tag, and it waits", knowing(t, 5), spoilt(says(4, 1)), api.ErrTag)
	h.next("a lore of more", knowing(t, 7), "4/1")
	h.next("the other", knowing(t, 7, 1), "1/2")
}

// R3: what is handed in is neither changed nor kept, the room behind a list's end neither.
func TestHandedIn(t *testing.T) {
	l, h := knowing(t, 3), fresh(t)
	room := begins(1, 2, 3).Q
	m := with(says(1, 1), api.Body{Kind: api.KNewView, View: 1, Q: room[:2]})
	h.put("a list", l, m, api.OK)
	h.put("a list, again", l, m, api.ErrAgain)
	if !slices.Equal(room, begins(1, 2, 3).Q) {
		t.Errorf("R3: Q is %v", room)
	}
	room[0], room[1], room[2] = api.Pair{Replica: 2, Number: 7}, api.Pair{Replica: 3, Number: 8}, api.Pair{}
	h.next("as it was put", l, "1/1")
}

// R3: what Next tells is memory of its own: it may be turned, and told once more.
func TestOwnMemory(t *testing.T) {
	l, w := knowing(t, 3), wait.New()
	one, two := with(says(1, 1), begins(1, 2)), with(says(2, 1), begins(1, 2))
	two.Body.Q = one.Body.Q
	for range 2 {
		if e := w.Put(l, one) + w.Put(l, two); e != api.OK {
			t.Fatalf("P13.1: Put = %d", e)
		}
		m, _ := w.Next(l)
		for i := range m.Body.Q[:cap(m.Body.Q)] {
			m.Body.Q[:cap(m.Body.Q)][i] = api.Pair{Replica: 3, Number: 99}
		}
		if !slices.Equal(one.Body.Q, begins(1, 2).Q) {
			t.Errorf("R3: Q is %v", one.Body.Q)
		}
		if other, ok := w.Next(l); !ok || !alike(other, two) {
			t.Errorf("R3: Next = %+v, %v", other, ok)
		}
	}
}

// R3: what a lore takes of Next is the lore's own.
func TestTakenByLore(t *testing.T) {
	l, w := knowing(t, 3), wait.New()
	one := with(says(1, 1), begins(1, 2))
	w.Put(l, one)
	m, _ := w.Next(l)
	if e := l.Add(m); e != api.OK {
		t.Fatalf("Add = %d", e)
	}
	m.Body.Q[0] = api.Pair{}
	if got, ok := l.Get(1, 1); !ok || !alike(got, one) {
		t.Errorf("R3: the lore has %+v", got)
	}
}

// all: messages of all kinds of answers.
func all() []api.Message {
	l := append(story(), says(1, 1<<16), says(11, 1), spoilt(says(1, 1)), spoilt(says(1, 9)), api.Message{})
	for _, m := range mayNot() {
		l = append(l, m)
	}
	return l
}

// P13.1, P13.2, R4: of no wait there is ErrNil, ahead of all others, and nothing.
func TestNoWait(t *testing.T) {
	var w *wait.Wait
	for _, l := range []*lore.Lore{nil, knowing(t, 3), taking(t, 3, story()...), knowing(t, 11)} {
		for _, m := range all() {
			if e := w.Put(l, m); e != api.ErrNil {
				t.Errorf("P13.1: Put of no wait = %d", e)
			}
		}
		if m, ok := w.Next(l); ok || !alike(m, api.Message{}) || w.Len() != 0 {
			t.Errorf("P13.2: Next, Len = %+v, %v, %d", m, ok, w.Len())
		}
	}
}

// P13.1, P13.2: with no lore Put is ErrNil, ahead of all others, and Next tells nothing and lets nothing go.
func TestNoLore(t *testing.T) {
	l := knowing(t, 3)
	for _, h := range []*held{
		fresh(t),
		waiting(t, l, says(1, 1)),
		waiting(t, l, says(1, 1), says(1, 2), says(2, 1), says(3, 7), with(says(3, 1), begins(1, 2, 3))),
		waiting(t, l, row(1, 1, 2, 3, 4, 5, 6, 7, 8, 9, 10, 11)...),
		waiting(t, l, row(1, 21, 22, 23, 24, 25, 26, 27, 28, 29, 30, 31)...),
	} {
		for _, m := range all() {
			h.put("no lore", nil, m, api.ErrNil)
			h.next("no lore", nil, "")
		}
		h.drain("with a lore")
		h.next("no lore, and nothing waits", nil, "")
	}
}

// R1: one that did not come of New panics not.
func TestZeroWait(t *testing.T) {
	l := knowing(t, 3)
	h := &held{t: t, w: &wait.Wait{}}
	h.is("as it is")
	h.next("as it is", l, "")
	h.put("the first", l, says(1, 1), api.OK)
	h.next("the first", l, "1/1")
}
