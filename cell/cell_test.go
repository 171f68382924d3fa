package cell_test

import (
	"bytes"
	"encoding/binary"
	"math"
	"strings"
	"testing"

	"ratchet/api"
	"ratchet/cell"
	"ratchet/disk"
)

// made fails unless a call answered so.
func made(t *testing.T, name string, e, want api.Errno) {
	t.Helper()
	if e != want {
		t.Fatalf("%s = %d and not %d", name, e, want)
	}
}

// opens fails unless there is a cell with these bytes.
func opens(t *testing.T, d *disk.Disk, at int, want string) *cell.Cell {
	t.Helper()
	c, e := cell.Open(d, at)
	if c == nil || e != api.OK || string(c.Get()) != want {
		t.Fatalf("Open(%d) = %d, %.40q and not %.40q", at, e, c.Get(), want)
	}
	return c
}

// refused fails unless Open answers the error, and no cell.
func refused(t *testing.T, d *disk.Disk, at int, want api.Errno) {
	t.Helper()
	if c, e := cell.Open(d, at); c != nil || e != want {
		t.Fatalf("Open(%d) = %v, %d and not %d", at, c, e, want)
	}
}

// stands fails unless the slot that begins there has the count and the bytes.
func stands(t *testing.T, d *disk.Disk, at int, count uint64, b string) {
	t.Helper()
	for i, want := range slot(count, raw(b)) {
		if s, e := d.Read(at + i); s != want || e != api.OK {
			t.Fatalf("sector %d is %x, %d and not %x", at+i, s, e, want)
		}
	}
}

// formatted: a disk with a new cell.
func formatted(t *testing.T, at int) *disk.Disk {
	t.Helper()
	d := disk.New()
	made(t, "Format", cell.Format(d, at), api.OK)
	return d
}

// strangers: numbers at which no cell can stand, among them some that are one if they are cut to fewer bits.
func strangers() []int {
	return []int{-1, -2, -cell.Size, disk.Most - cell.Size + 1, disk.Most - 1, disk.Most, 2 * disk.Most, 1 << 32, 1<<32 + 1, -1 << 32, math.MaxInt, math.MaxInt - 19, math.MinInt, math.MinInt + 1}
}

// text: n bytes, none of them a nought, no two sectors alike.
func text(n int) string {
	b := make([]byte, n)
	for i := range b {
		b[i] = byte(1 + i*13%251)
	}
	return string(b)
}

// lengths: those that the chapter names, and those at which a sector is just full, one less and one more.
func lengths() []int {
	out := []int{0, 1, 2, cell.Bytes - 1, cell.Bytes}
	for full := 118; full < cell.Bytes; full += 120 {
		out = append(out, full-1, full, full+1)
	}
	return append(out, 255, 256, 257)
}

// P5.1: how many sectors and bytes a cell has.
func TestSize(t *testing.T) {
	if cell.Size != 20 || cell.Bytes != 1100 {
		t.Error("P5.1: ", cell.Size, cell.Bytes)
	}
}

// P5.1: both slots are written, with their counts, and no other sector; it is synced.
func TestFormat(t *testing.T) {
	for _, at := range []int{0, 1, 3, 100, disk.Most - cell.Size} {
		d := disk.New()
		for i := max(at-1, 0); i < min(at+21, disk.Most); i++ {
			made(t, "Write", d.Write(i, sector{0: 9, 127: 9}), api.OK)
		}
		made(t, "Sync", d.Sync(), api.OK)
		made(t, "Format", cell.Format(d, at), api.OK)
		if d.Loose() != 0 {
			t.Errorf("P5.1: %d are loose", d.Loose())
		}
		stands(t, d, at, 2, "")
		stands(t, d, at+10, 1, "")
		for _, i := range []int{at - 1, at + 20} {
			if s, e := d.Read(i); e == api.OK && s != (sector{0: 9, 127: 9}) {
				t.Errorf("P5.1: sector %d is written, too", i)
			}
		}
		opens(t, d, at, "")
	}
}

// P5.1: a cell that had something is new again, whatever stood there.
func TestFormatAgain(t *testing.T) {
	d := formatted(t, 5)
	c := opens(t, d, 5, "")
	for _, s := range []string{"a", "b", "c"} {
		made(t, "Put", c.Put([]byte(s)), api.OK)
	}
	lose(t, d, 7)
	made(t, "Format", cell.Format(d, 5), api.OK)
	stands(t, d, 5, 2, "")
	stands(t, d, 15, 1, "")
	opens(t, d, 5, "")
}

// P5.1, P5.2: where no cell can stand none is, and nothing is written; that is told ahead of the power's error.
func TestNoPlace(t *testing.T) {
	for _, off := range []bool{false, true} {
		for _, at := range strangers() {
			d := disk.New()
			if off {
				d.Off()
			}
			if e := cell.Format(d, at); e != api.ErrArg || d.Loose() != 0 {
				t.Errorf("P5.1: Format(%d) = %d", at, e)
			}
			refused(t, d, at, api.ErrArg)
		}
	}
}

// P5.1, P5.2: of no disk, ahead of all others.
func TestNoDisk(t *testing.T) {
	for _, at := range append(strangers(), 0, 1, disk.Most-cell.Size) {
		if e := cell.Format(nil, at); e != api.ErrNil {
			t.Errorf("P5.1: Format(%d) = %d", at, e)
		}
		refused(t, nil, at, api.ErrNil)
	}
}

// P5.3, R4: of no cell.
func TestNoCell(t *testing.T) {
	var c *cell.Cell
	if len(c.Get()) != 0 || c.Put(nil) != api.ErrNil || c.Put([]byte("ab")) != api.ErrNil || c.Put(make([]byte, cell.Bytes+1)) != api.ErrNil {
		t.Error("P5.3: of no cell")
	}
}

// P5.1: the disk's error, at each of its calls: the first slot's sectors, the second one's, and the Sync.
func TestFormatPower(t *testing.T) {
	for n := range 22 {
		d := disk.New()
		d.Fuse(n)
		e := cell.Format(d, 0)
		if (e == api.OK) != (n == 21) || e != api.OK && e != api.ErrPower {
			t.Errorf("P5.1: the power goes behind %d: %d", n, e)
		}
		if n < 21 && (d.Loose() != min(n+1, 20) || cell.Format(d, 0) != api.ErrPower) {
			t.Errorf("P5.1: behind %d: %d are loose", n, d.Loose())
		}
	}
	d := disk.New()
	d.Fuse(9)
	cell.Format(d, 0)
	made(t, "On", d.On(bytes.Repeat([]byte{1}, 10)...), api.OK)
	stands(t, d, 0, 2, "") // the first slot is written first
	opens(t, d, 0, "")
}

// P5.2: a disk that is off, and one on which no cell stands.
func TestOpenRefuses(t *testing.T) {
	d := disk.New()
	refused(t, d, 0, api.ErrLost)
	made(t, "Format", cell.Format(d, 30), api.OK)
	refused(t, d, 0, api.ErrLost)
	d.Off()
	refused(t, d, 30, api.ErrPower)
	refused(t, d, 0, api.ErrPower) // told, though no slot is whole
	made(t, "On", d.On(), api.OK)
	opens(t, d, 30, "")
	lose(t, d, 30)
	lose(t, d, 40)
	d.Off()
	refused(t, d, 30, api.ErrPower)
	made(t, "On", d.On(), api.OK)
	refused(t, d, 30, api.ErrLost)
}

// P5.2: Open writes nothing.
func TestOpenWritesNothing(t *testing.T) {
	d := formatted(t, 0)
	made(t, "Put", opens(t, d, 0, "").Put([]byte("ab")), api.OK)
	d.Fuse(0)
	opens(t, d, 0, "ab")
	if !d.Power() || d.Loose() != 0 {
		t.Error("P5.2: something was written")
	}
}

// P5.2, P5.3: bytes of all lengths that may be come again, and stand as the chapter says.
func TestLengths(t *testing.T) {
	d := formatted(t, 3)
	c := opens(t, d, 3, "")
	count := uint64(3)
	for _, n := range lengths() {
		for _, s := range []string{text(n), strings.Repeat("\x00", n), strings.Repeat("\xff", n)} {
			made(t, "Put", c.Put([]byte(s)), api.OK)
			if string(c.Get()) != s || d.Loose() != 0 {
				t.Fatalf("P5.3: %d bytes", n)
			}
			opens(t, d, 3, s)
			stands(t, d, 3+10*int(count%2), count, s)
			count++
		}
	}
}

// P5.3: more bytes than may be are refused; nothing is written, and the cell is as it was, for Get, Put and Open.
func TestTooMany(t *testing.T) {
	d := formatted(t, 0)
	c := opens(t, d, 0, "")
	made(t, "Put", c.Put([]byte("ab")), api.OK)
	for _, n := range []int{cell.Bytes + 1, 1198, 1199, 65535, 65536, 65537, 1 << 20} {
		d.Fuse(0)
		made(t, "Put", c.Put(make([]byte, n)), api.ErrMany)
		if !d.Power() || d.Loose() != 0 || string(c.Get()) != "ab" {
			t.Errorf("P5.3: %d bytes are not let be", n)
		}
		d.Fuse(-1)
		opens(t, d, 0, "ab")
	}
	made(t, "Put", c.Put([]byte("cd")), api.OK)
	opens(t, d, 0, "cd")
	d.Off()
	made(t, "Put", c.Put(make([]byte, cell.Bytes+1)), api.ErrMany)
	made(t, "Put", c.Put(nil), api.ErrPower)
	made(t, "Put", c.Put(make([]byte, cell.Bytes+1)), api.ErrMany) // behind one that had an error, too
}

// P5.3: the slots are written by turns, the one that has what the cell has stays; the counts rise.
func TestTurns(t *testing.T) {
	d := formatted(t, 4)
	c := opens(t, d, 4, "")
	was := ""
	for count := uint64(3); count < 9; count++ {
		is := text(int(count) * 100)
		made(t, "Put", c.Put([]byte(is)), api.OK)
		stands(t, d, 4+10*int(count%2), count, is)
		stands(t, d, 4+10*int(1-count%2), count-1, was)
		was = is
		if count%3 == 0 {
			c = opens(t, d, 4, is) // it goes on as if it had not been opened anew
		}
	}
}

// P5.3: a Put begins with the first sector of its slot, and goes on in order.
func TestOrder(t *testing.T) {
	for n := range 10 {
		d := formatted(t, 0)
		d.Fuse(n)
		made(t, "Put", opens(t, d, 0, "").Put([]byte(text(1100))), api.ErrPower)
		made(t, "On", d.On(bytes.Repeat([]byte{1}, n+1)...), api.OK)
		now, was := slot(3, raw(text(1100))), slot(1, raw(""))
		for i := range 10 {
			want := was[i]
			if i <= n {
				want = now[i]
			}
			if s, e := d.Read(10 + i); s != want || e != api.OK {
				t.Errorf("P5.3: behind %d calls sector %d is %x, %d", n, i, s[:12], e)
			}
		}
		stands(t, d, 0, 2, "")
	}
}

// P5.2: a slot of which one sector cannot be read is not whole, whichever it is.
func TestOneSectorLost(t *testing.T) {
	for i := range 10 {
		for _, first := range []bool{true, false} {
			d := disk.New()
			newer, older := 0, 10
			if !first {
				newer, older = 10, 0
			}
			lay(t, d, newer, slot(9, raw("new")))
			lay(t, d, older, slot(4, raw("old")))
			opens(t, d, 0, "new")
			lose(t, d, newer+i)
			opens(t, d, 0, "old")
			lose(t, d, older+(i+3)%10)
			refused(t, d, 0, api.ErrLost)
			made(t, "Write", d.Write(newer+i, slot(9, raw("new"))[i]), api.OK)
			opens(t, d, 0, "new") // a loose write can be read, too
		}
	}
}

// P5.2: a slot one of whose counts is another one is not whole, however near that is.
func TestOneCountOther(t *testing.T) {
	for i := range 10 {
		for _, other := range []uint64{0, 8, 10, 9 + 1<<8, 9 + 1<<32, 9 + 1<<56, math.MaxUint64} {
			d := disk.New()
			lay(t, d, 10, slot(9, raw("new")))
			lay(t, d, 0, slot(4, raw("old")))
			made(t, "Write", d.Write(10+i, slot(other, raw("new"))[i]), api.OK)
			opens(t, d, 0, "old")
			made(t, "Write", d.Write(9-i, slot(other, raw("old"))[9-i]), api.OK)
			refused(t, d, 0, api.ErrLost)
		}
	}
}

// P5.2: a slot of the count 0 is not whole, of whatever bytes.
func TestCountZero(t *testing.T) {
	for _, s := range []string{"", "ab", text(1100)} {
		d := disk.New()
		lay(t, d, 10, slot(0, raw(s)))
		refused(t, d, 0, api.ErrLost)
		lay(t, d, 0, slot(0, raw(s)))
		refused(t, d, 0, api.ErrLost)
		lay(t, d, 0, slot(1, raw("one")))
		opens(t, d, 0, "one")
		lay(t, d, 0, slot(0, raw("one")))
		lay(t, d, 10, slot(1, raw(s)))
		opens(t, d, 0, s)
	}
}

// P5.2: a slot that says that there are more than 1100 bytes is not whole, whether they could stand there or not.
func TestLengthAbove(t *testing.T) {
	for _, n := range []int{1101, 1102, 1197, 1198, 1199, 1200, 1356, 32768, 65535} {
		for _, fill := range []string{"\x00", "x"} {
			d := disk.New()
			all := string([]byte{byte(n >> 8), byte(n)}) + strings.Repeat(fill, min(n, 1198))
			lay(t, d, 0, slot(9, all+strings.Repeat("\x00", 1200-len(all))))
			refused(t, d, 0, api.ErrLost)
			lay(t, d, 10, slot(4, raw("old")))
			opens(t, d, 0, "old")
		}
	}
	d := disk.New()
	lay(t, d, 0, slot(9, raw(text(1100))))
	opens(t, d, 0, text(1100))
}

// P5.2: a slot with a byte behind its bytes that is no nought is not whole, wherever that stands.
func TestByteBehind(t *testing.T) {
	for _, n := range lengths() {
		behind := []int{2 + n, 2 + n + 1, 1102, 1199}
		for last := 119; last < 1200; last += 120 {
			behind = append(behind, last, last+1)
		}
		for _, place := range behind {
			if place < 2+n || place >= 1200 {
				continue
			}
			for _, b := range []byte{1, 0x80, 0xff} {
				all := []byte(raw(text(n)))
				all[place] = b
				d := disk.New()
				lay(t, d, 10, slot(9, string(all)))
				lay(t, d, 0, slot(4, raw("old")))
				opens(t, d, 0, "old")
			}
		}
	}
}

// P5.2: of two whole slots it is the one of the greater count; of one count, the first one.
func TestWhichSlot(t *testing.T) {
	for _, x := range []struct {
		one, two uint64
		want     string
	}{
		{1, 1, "first"}, {7, 7, "first"}, {math.MaxUint64, math.MaxUint64, "first"},
		{2, 1, "first"}, {1, 2, "second"}, {255, 256, "second"}, {256, 255, "first"},
		{math.MaxUint64, 1, "first"}, {1, math.MaxUint64, "second"}, {1 << 63, 1<<63 - 1, "first"}, {1<<63 - 1, 1 << 63, "second"},
		{1 << 32, 5, "first"}, {5, 1 << 32, "second"}, {0, 1, "second"}, {1, 0, "first"},
	} {
		d := disk.New()
		lay(t, d, 0, slot(x.one, raw("first")))
		lay(t, d, 10, slot(x.two, raw("second")))
		opens(t, d, 0, x.want)
	}
}

// P5.3: of two slots of one count, the second one is written.
func TestPutOfOneCount(t *testing.T) {
	d := disk.New()
	lay(t, d, 0, slot(7, raw("first")))
	lay(t, d, 10, slot(7, raw("second")))
	made(t, "Put", opens(t, d, 0, "first").Put([]byte("ab")), api.OK)
	stands(t, d, 0, 7, "first")
	stands(t, d, 10, 8, "ab")
	opens(t, d, 0, "ab")
}

// P5.3: the count is one more than all that can be read, in a slot that is not whole, too; those that cannot be read are none.
func TestCountsThatCanBeRead(t *testing.T) {
	for i := range cell.Size {
		for _, great := range []uint64{50, 1 << 40, math.MaxUint64 - 1} {
			d := disk.New()
			lay(t, d, 0, slot(6, raw("first")))
			lay(t, d, 10, slot(5, raw("second")))
			s, _ := d.Read(i)
			binary.BigEndian.PutUint64(s[:8], great)
			made(t, "Write", d.Write(i, s), api.OK)
			has, from := "first", 10
			if i < 10 {
				has, from = "second", 0
			}
			made(t, "Put", opens(t, d, 0, has).Put([]byte("ab")), api.OK)
			stands(t, d, from, great+1, "ab")
			opens(t, d, 0, "ab")
		}
	}
	d := disk.New()
	lay(t, d, 0, slot(6, raw("first")))
	lay(t, d, 10, slot(99, raw("second")))
	for i := range 9 {
		lose(t, d, 10+i)
	}
	made(t, "Write", d.Write(19, slot(8, raw("second"))[9]), api.OK)
	made(t, "Put", opens(t, d, 0, "first").Put([]byte("ab")), api.OK)
	stands(t, d, 10, 9, "ab")
}

// P5.3: behind the greatest count comes 0: the slot is written, but not whole; the cell has the bytes until it is opened again.
func TestGreatestCount(t *testing.T) {
	for _, whole := range []bool{true, false} {
		d := disk.New()
		lay(t, d, 0, slot(6, raw("first")))
		lay(t, d, 10, slot(5, raw("second")))
		if whole {
			lay(t, d, 0, slot(math.MaxUint64, raw("first")))
		} else {
			made(t, "Write", d.Write(14, slot(math.MaxUint64, raw(""))[4]), api.OK)
		}
		c := opens(t, d, 0, "first")
		made(t, "Put", c.Put([]byte("ab")), api.OK)
		if string(c.Get()) != "ab" || d.Loose() != 0 {
			t.Errorf("P5.3: the cell has %q", c.Get())
		}
		stands(t, d, 10, 0, "ab")
		opens(t, d, 0, "first")
	}
}

// P5.3: once a Put had the disk's error all others have it too, though the power is on again; nothing is read or written then.
func TestPutBehindAnError(t *testing.T) {
	for n := range 12 {
		d := formatted(t, 0)
		c := opens(t, d, 0, "")
		made(t, "Put", c.Put([]byte("was")), api.OK)
		if n == 11 {
			d.Off()
		} else {
			d.Fuse(n)
		}
		made(t, "Put", c.Put([]byte("is")), api.ErrPower)
		made(t, "Put", c.Put(nil), api.ErrPower)
		made(t, "On", d.On(), api.OK)
		for range 3 {
			made(t, "Put", c.Put([]byte("more")), api.ErrPower)
			if string(c.Get()) != "was" || d.Loose() != 0 {
				t.Errorf("P5.3: it has %q", c.Get())
			}
		}
		c = opens(t, d, 0, "was")
		made(t, "Put", c.Put([]byte("more")), api.OK)
		opens(t, d, 0, "more")
	}
}

// P5.2: Get reads nothing: it answers while the power is off, and though the sectors are others.
func TestGetReadsNothing(t *testing.T) {
	d := formatted(t, 0)
	c := opens(t, d, 0, "")
	made(t, "Put", c.Put([]byte("ab")), api.OK)
	d.Off()
	if string(c.Get()) != "ab" {
		t.Errorf("P5.2: %q", c.Get())
	}
	made(t, "On", d.On(), api.OK)
	made(t, "Format", cell.Format(d, 0), api.OK)
	if string(c.Get()) != "ab" {
		t.Errorf("P5.2: %q", c.Get())
	}
	made(t, "Put", c.Put([]byte("cd")), api.OK) // the power never went within a Put
}

// P5.4: wherever the power goes, and whatever is picked, alike for all sectors or for one of them alone.
func TestPower(t *testing.T) {
	long, short := text(1100), "is"
	for n := range 12 {
		for _, x := range []struct{ was, is string }{{"", "is"}, {long, short}, {short, long}, {"same", "same"}} {
			for _, picks := range picked() {
				d := formatted(t, 2)
				c := opens(t, d, 2, "")
				made(t, "Put", c.Put([]byte(x.was)), api.OK)
				d.Fuse(n)
				e := c.Put([]byte(x.is))
				if (e == api.OK) != (n == 11) {
					t.Fatalf("P5.4: behind %d calls: %d", n, e)
				}
				d.Off()
				made(t, "On", d.On(picks...), api.OK)
				want := x.was
				if n == 11 || n >= 9 && done(picks) {
					want = x.is
				}
				c = opens(t, d, 2, want)
				made(t, "Put", c.Put([]byte("more")), api.OK)
				opens(t, d, 2, "more")
			}
		}
	}
}

// picked: picks for the ten sectors of a slot.
func picked() [][]byte {
	out := [][]byte{nil, {1}, bytes.Repeat([]byte{1}, 9), []byte("\x01\x03\x05\x07\xff\x01\x03\x05\x07\xff")}
	for pick := range byte(4) {
		out = append(out, bytes.Repeat([]byte{pick}, 10))
		for i := range 10 {
			one := bytes.Repeat([]byte{1}, 10)
			one[i] = pick
			out = append(out, one)
		}
	}
	return out
}

// done: are ten writes done by these picks?
func done(picks []byte) bool {
	for _, p := range picks {
		if p%2 != 1 {
			return false
		}
	}
	return len(picks) >= 10
}

// P5.4: the power goes in one Put after the other, each opened anew in between; sectors of several Puts never make one slot.
func TestPowerAgainAndAgain(t *testing.T) {
	for first := range 11 {
		for second := range 11 {
			for half := range 11 {
				d := formatted(t, 0)
				made(t, "Put", opens(t, d, 0, "").Put([]byte("was")), api.OK)
				d.Fuse(first)
				made(t, "Put", opens(t, d, 0, "was").Put([]byte(text(1100))), api.ErrPower)
				made(t, "On", d.On(bytes.Repeat([]byte{1}, half)...), api.OK)
				has := "was"
				if first >= 9 && half == 10 {
					has = text(1100)
				}
				d.Fuse(second)
				made(t, "Put", opens(t, d, 0, has).Put([]byte(text(1099))), api.ErrPower)
				made(t, "On", d.On(bytes.Repeat([]byte{1}, 10-half)...), api.OK)
				if second >= 9 && half == 0 {
					has = text(1099)
				}
				opens(t, d, 0, has)
			}
		}
	}
}

// P5.2, P5.3, R3: what Get answers is new memory, and what Put was given is not kept, nor the room behind its end touched.
func TestMemory(t *testing.T) {
	d := formatted(t, 0)
	c := opens(t, d, 0, "")
	room := []byte("ab~~~~~~~~")
	given := room[:2]
	made(t, "Put", c.Put(given), api.OK)
	if string(room) != "ab~~~~~~~~" {
		t.Errorf("P5.3: %q was handed in", room)
	}
	given[0] = 'X'
	one, two := c.Get(), c.Get()
	one[1] = 'Y'
	_ = append(one[:0], "ZZZZZZ"...)
	if string(two) != "ab" || string(c.Get()) != "ab" || string(room) != "Xb~~~~~~~~" {
		t.Errorf("P5.2: %q, %q, %q", two, c.Get(), room)
	}
	c = opens(t, d, 0, "ab")
	c.Get()[0] = 'X'
	if string(c.Get()) != "ab" {
		t.Errorf("P5.2: %q", c.Get())
	}
	made(t, "Put", c.Put(make([]byte, cell.Bytes+1)), api.ErrMany)
	opens(t, d, 0, "ab")
}

// P5.3: no bytes, as nil or as an empty list, are bytes that are put.
func TestPutNothing(t *testing.T) {
	for _, none := range [][]byte{nil, {}} {
		d := formatted(t, 0)
		c := opens(t, d, 0, "")
		made(t, "Put", c.Put([]byte("ab")), api.OK)
		made(t, "Put", c.Put(none), api.OK)
		if len(c.Get()) != 0 {
			t.Errorf("P5.3: %q", c.Get())
		}
		stands(t, d, 0, 4, "")
		opens(t, d, 0, "")
	}
}

// P5.1 to P5.3: cells side by side on a disk, and on two disks, are each its own.
func TestSideBySide(t *testing.T) {
	d, other := formatted(t, 0), formatted(t, 20)
	made(t, "Format", cell.Format(d, 20), api.OK)
	a, b, c := opens(t, d, 0, ""), opens(t, d, 20, ""), opens(t, other, 20, "")
	for i, s := range []string{"x", text(1100), "y"} {
		made(t, "Put", a.Put([]byte(s)), api.OK)
		if i < 2 {
			made(t, "Put", b.Put([]byte(s + "b")[:min(len(s)+1, 1100)]), api.OK)
		}
	}
	made(t, "Put", c.Put([]byte("other")), api.OK)
	opens(t, d, 0, "y")
	opens(t, d, 20, text(1100))
	opens(t, other, 20, "other")
}

// The chapter's examples.
func TestExamples(t *testing.T) {
	d := formatted(t, 0)
	c := opens(t, d, 0, "")
	made(t, "Put", c.Put([]byte("ab")), api.OK)
	opens(t, d, 0, "ab")
}
