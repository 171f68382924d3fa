package book_test

import (
	"bytes"
	"encoding/binary"
	"math"
	"slices"
	"strings"
	"testing"

	"ratchet/api"
	"ratchet/book"
	"ratchet/cell"
	"ratchet/disk"
)

// made fails unless a call answered so.
func made(t *testing.T, name string, e, want api.Errno) {
	t.Helper()
	if e != want {
		t.Fatalf("%s = %d and not %d", name, e, want)
	}
}

// texts: records as texts.
func texts(l [][]byte) []string {
	var out []string
	for _, r := range l {
		out = append(out, string(r))
	}
	return out
}

// opens fails unless there is a book with these records.
func opens(t *testing.T, d *disk.Disk, at, size int, want ...string) *book.Book {
	t.Helper()
	b, l, e := book.Open(d, at, size)
	if b == nil || e != api.OK || !slices.Equal(texts(l), want) || b.Len() != len(want) {
		t.Fatalf("Open(%d, %d) = %d, %d records and not %d", at, size, e, len(l), len(want))
	}
	return b
}

// peeks: the records of which Peek tells.
func peeks(t *testing.T, d *disk.Disk, at, size int) []string {
	t.Helper()
	_, l, _, e := book.Peek(d, at, size)
	made(t, "Peek", e, api.OK)
	return texts(l)
}

// refused fails unless Open and Peek answer the error, and nothing else.
func refused(t *testing.T, d *disk.Disk, at, size int, want api.Errno) {
	t.Helper()
	if b, l, e := book.Open(d, at, size); b != nil || len(l) != 0 || e != want {
		t.Fatalf("Open(%d, %d) = %v, %d records, %d and not %d", at, size, b, len(l), e, want)
	}
	if life, l, next, e := book.Peek(d, at, size); life != 0 || len(l) != 0 || next != 0 || e != want {
		t.Fatalf("Peek(%d, %d) = %d, %d records, %d, %d and not %d", at, size, life, len(l), next, e, want)
	}
}

// formatted: a disk with a new book.
func formatted(t *testing.T, at int) *disk.Disk {
	t.Helper()
	d := disk.New()
	made(t, "Format", book.Format(d, at), api.OK)
	return d
}

// appends puts records, all of which have room.
func appends(t *testing.T, b *book.Book, records ...string) {
	t.Helper()
	for _, r := range records {
		made(t, "Append", b.Append([]byte(r)), api.OK)
	}
}

// setCell puts bytes in a book's cell, past the book.
func setCell(t *testing.T, d *disk.Disk, at int, s string) {
	t.Helper()
	c, e := cell.Open(d, at)
	made(t, "cell.Open", e, api.OK)
	made(t, "cell.Put", c.Put([]byte(s)), api.OK)
}

// setLife makes that a book has been opened so often.
func setLife(t *testing.T, d *disk.Disk, at int, life uint64) {
	t.Helper()
	setCell(t, d, at, string(binary.BigEndian.AppendUint64(nil, life)))
}

// text: n bytes, none of them a nought, no two pages alike.
func text(n int) string {
	b := make([]byte, n)
	for i := range b {
		b[i] = byte(1 + i*13%251)
	}
	return string(b)
}

// lengths: those that the chapter names, and those at which a page is just full, one less and one more.
func lengths() []int {
	out := []int{0, 1, 2, 255, 256, 257, api.MaxRecord - 1, api.MaxRecord}
	for n := 1; n <= 37; n++ {
		out = append(out, n*108-3, n*108-2, n*108-1)
	}
	return out
}

// places: where no book can stand, with its size; among them some that are one if they are cut to fewer bits, or if at and size are added.
func places() [][2]int {
	out := [][2]int{
		{-1, 21}, {-1, 22}, {-20, 60}, {0, 20}, {0, 19}, {0, 1}, {0, 0}, {0, -1}, {5, -100}, {0, math.MinInt},
		{disk.Most - 20, 21}, {disk.Most - 21, 22}, {disk.Most - 99, 100}, {0, disk.Most + 1}, {1, disk.Most}, {disk.Most, 21}, {disk.Most, 0},
		{0, math.MaxInt}, {math.MaxInt, math.MaxInt}, {math.MaxInt, 21}, {math.MaxInt - 20, 21}, {math.MinInt, 21}, {math.MinInt, math.MaxInt}, {math.MinInt, math.MinInt},
		{1 << 32, 21}, {0, 1<<32 + 21}, {-1 << 32, 21}, {-5, disk.Most}, {disk.Most - 20, 20},
	}
	return out
}

// P6.1: Format makes a cell there, and writes nothing behind it; its errors are that cell's.
func TestFormat(t *testing.T) {
	for _, at := range []int{0, 1, 7, disk.Most - cell.Size} {
		d, other := disk.New(), disk.New()
		made(t, "Write", d.Write(min(at+20, disk.Most-21), sector{9}), api.OK)
		made(t, "Format", book.Format(d, at), api.OK)
		made(t, "cell.Format", cell.Format(other, at), api.OK)
		for i := range 20 {
			one, e := d.Read(at + i)
			two, _ := other.Read(at + i)
			if one != two || e != api.OK {
				t.Errorf("P6.1: sector %d is %x, %d", at+i, one, e)
			}
		}
		if s, e := d.Read(min(at+20, disk.Most-21)); s != (sector{9}) || e != api.OK || d.Loose() != 0 {
			t.Errorf("P6.1: %x, %d, %d are loose", s, e, d.Loose())
		}
	}
	for _, at := range []int{-1, disk.Most - cell.Size + 1, disk.Most, math.MaxInt, math.MinInt} {
		made(t, "Format", book.Format(disk.New(), at), api.ErrArg)
		made(t, "Format", book.Format(nil, at), api.ErrNil)
	}
	made(t, "Format", book.Format(nil, 0), api.ErrNil)
	for n := range 22 {
		d := disk.New()
		d.Fuse(n)
		want := api.ErrPower
		if n == 21 {
			want = api.OK
		}
		made(t, "Format", book.Format(d, 0), want)
	}
}

// P6.1: where no book can stand none is, whatever stands there; that is told ahead of the cell's errors.
func TestNoPlace(t *testing.T) {
	for _, off := range []bool{false, true} {
		for _, p := range places() {
			d := formatted(t, 0)
			made(t, "cell.Format", cell.Format(d, disk.Most-20), api.OK)
			if off {
				d.Off()
			}
			d.Fuse(0)
			refused(t, d, p[0], p[1], api.ErrArg)
			if d.Power() == off || d.Loose() != 0 {
				t.Errorf("P6.1: Open(%d, %d) writes", p[0], p[1])
			}
		}
	}
}

// P6.1, R4: of no disk, ahead of all others.
func TestNoDisk(t *testing.T) {
	for _, p := range append(places(), [2]int{0, 21}, [2]int{2, 100}, [2]int{0, disk.Most}) {
		refused(t, nil, p[0], p[1], api.ErrNil)
	}
}

// P6.2, R4: of no book, ahead of all others.
func TestNoBook(t *testing.T) {
	var b *book.Book
	for _, n := range []int{0, 1, api.MaxRecord, api.MaxRecord + 1} {
		made(t, "Append", b.Append(make([]byte, n)), api.ErrNil)
	}
	made(t, "Append", b.Append(nil), api.ErrNil)
	if b.Len() != 0 {
		t.Error("P6.2: Len ", b.Len())
	}
}

// P6.1: books that end at the disk's last sector, and the smallest and the greatest ones.
func TestPlaces(t *testing.T) {
	for _, p := range [][2]int{{0, 21}, {0, 22}, {1, 21}, {disk.Most - 21, 21}, {disk.Most - 22, 22}, {disk.Most - 100, 100}, {0, disk.Most}, {1, disk.Most - 1}} {
		at, size := p[0], p[1]
		d := formatted(t, at)
		b := opens(t, d, at, size)
		if _, _, next, _ := book.Peek(d, at, size); next != at+20 {
			t.Errorf("P6.1: next %d", next)
		}
		appends(t, b, "ab")
		if s, e := d.Read(at + 20); s != pages(1, 1, "ab")[0] || e != api.OK {
			t.Errorf("P6.2: %x, %d", s, e)
		}
		opens(t, d, at, size, "ab")
		if _, _, next, _ := book.Peek(d, at, size); next != at+21 {
			t.Errorf("P6.1: next %d", next)
		}
	}
}

// P6.1: the cell's errors: the power is off, there is no cell, it cannot be read.
func TestCellErrors(t *testing.T) {
	d := disk.New()
	refused(t, d, 0, 30, api.ErrLost)
	made(t, "Format", book.Format(d, 40), api.OK)
	refused(t, d, 0, 30, api.ErrLost)
	d.Off()
	refused(t, d, 0, 30, api.ErrPower)
	refused(t, d, 40, 30, api.ErrPower)
	made(t, "On", d.On(), api.OK)
	opens(t, d, 40, 30)
	lose(t, d, 43)
	opens(t, d, 40, 30) // one slot is enough; the Put makes the other one whole again
	lose(t, d, 43)
	lose(t, d, 53)
	refused(t, d, 40, 30, api.ErrLost)
}

// P6.1: a cell that has neither nothing nor 8 bytes is no book's; nothing is written to it.
func TestCellOfOtherBytes(t *testing.T) {
	for _, n := range []int{1, 2, 4, 7, 9, 10, 16, 264, 1099, 1100} {
		for _, fill := range []string{"\x00", "\x01"} {
			d := formatted(t, 3)
			setCell(t, d, 3, strings.Repeat(fill, n))
			d.Fuse(0)
			refused(t, d, 3, 40, api.ErrLost)
			if !d.Power() || d.Loose() != 0 {
				t.Errorf("P6.1: it is written, %d bytes", n)
			}
			d.Off()
			refused(t, d, 3, 40, api.ErrPower)
		}
	}
}

// P6.1: the cell has the life, as a word, or nothing; it rises by one with each Open, Peek tells it and lets it be.
func TestLife(t *testing.T) {
	d := formatted(t, 2)
	for life := uint64(0); life < 300; life++ {
		if got, _, _, e := book.Peek(d, 2, 30); got != life || e != api.OK {
			t.Fatalf("P6.1: Peek tells the life %d and not %d", got, life)
		}
		opens(t, d, 2, 30)
		c, _ := cell.Open(d, 2)
		if want := binary.BigEndian.AppendUint64(nil, life+1); !bytes.Equal(c.Get(), want) {
			t.Fatalf("P6.1: %x and not %x", c.Get(), want)
		}
	}
	for _, life := range []uint64{0, 1, 255, 256, 1<<32 - 1, 1 << 32, 1<<63 - 1, 1 << 63, math.MaxUint64 - 2} {
		setLife(t, d, 2, life)
		if got, _, _, e := book.Peek(d, 2, 30); got != life || e != api.OK {
			t.Errorf("P6.1: Peek tells the life %d and not %d", got, life)
		}
		appends(t, opens(t, d, 2, 30), "a")
		if s, _ := d.Read(22); s != pages(life+1, 1, "a")[0] || lifeOf(t, d, 2) != life+1 {
			t.Errorf("P6.2: %x, life %d", s, lifeOf(t, d, 2))
		}
		opens(t, d, 2, 30, "a")
		lay(t, d, 22, make([]sector, 1))
	}
}

// P6.1, P6.2: records of all lengths that may be come again, and stand in their pages as the chapter says.
func TestLengths(t *testing.T) {
	d := formatted(t, 0)
	b := opens(t, d, 0, disk.Most)
	next := 20
	var has []string
	for _, n := range lengths() {
		for _, s := range []string{text(n), strings.Repeat("\x00", n), strings.Repeat("\xff", n)} {
			appends(t, b, s)
			has = append(has, s)
			for i, want := range pages(1, uint64(len(has)), s) {
				if got, e := d.Read(next); got != want || e != api.OK {
					t.Fatalf("P6.2: %d bytes, page %d: %x, %d", n, i, got, e)
				}
				next++
			}
			if b.Len() != len(has) || d.Loose() != 0 {
				t.Fatalf("P6.2: Len %d and not %d", b.Len(), len(has))
			}
		}
	}
	if _, _, n, _ := book.Peek(d, 0, disk.Most); n != next {
		t.Errorf("P6.1: next %d and not %d", n, next)
	}
	b = opens(t, d, 0, disk.Most, has...)
	appends(t, b, "behind")
	if s, _ := d.Read(next); s != pages(2, uint64(len(has)+1), "behind")[0] {
		t.Errorf("P6.2: %x", s)
	}
	opens(t, d, 0, disk.Most, append(has, "behind")...)
}

// P6.2: more bytes than may be are refused, ahead of all others; nothing is written, and the book goes on.
func TestTooMany(t *testing.T) {
	d := formatted(t, 0)
	b := opens(t, d, 0, 60)
	appends(t, b, "ab")
	many := []int{api.MaxRecord + 1, 4102, 4104, 4105, 8192, 65535, 65536, 65537, 1 << 20}
	for _, n := range many {
		d.Fuse(0)
		made(t, "Append", b.Append(make([]byte, n)), api.ErrMany)
		if !d.Power() || d.Loose() != 0 || b.Len() != 1 {
			t.Errorf("P6.2: %d bytes are not let be", n)
		}
		d.Fuse(-1)
	}
	appends(t, b, text(api.MaxRecord), "c")
	made(t, "Append", b.Append(make([]byte, api.MaxRecord+1)), api.ErrMany) // though it is full
	opens(t, d, 0, 60, "ab", text(api.MaxRecord), "c")
	d.Off()
	made(t, "Append", b.Append(make([]byte, api.MaxRecord+1)), api.ErrMany)
	made(t, "On", d.On(), api.OK)
	b = opens(t, d, 0, 70, "ab", text(api.MaxRecord), "c")
	d.Off()
	made(t, "Append", b.Append(nil), api.ErrPower)
	made(t, "Append", b.Append(make([]byte, api.MaxRecord+1)), api.ErrMany)
}

// P6.2: a record has room, if the pages that are left are just as many as it needs; with one page less it has none, and nothing has changed.
func TestFull(t *testing.T) {
	for _, n := range []int{0, 106, 107, 214, 215, 1000, api.MaxRecord} {
		for _, ahead := range []string{"", text(106), text(107), text(500)} {
			just := 20 + needs(len(ahead)) + needs(n)
			d := formatted(t, 1)
			b := opens(t, d, 1, just)
			appends(t, b, ahead, text(n))
			for _, s := range []string{"", "x", text(api.MaxRecord)} {
				d.Fuse(0)
				made(t, "Append", b.Append([]byte(s)), api.ErrFull)
				if !d.Power() || d.Loose() != 0 || b.Len() != 2 {
					t.Fatal("P6.2: a full book is written")
				}
			}
			d.Fuse(-1)
			b = opens(t, d, 1, just, ahead, text(n))
			made(t, "Append", b.Append(nil), api.ErrFull)
			if _, _, next, e := book.Peek(d, 1, just); next != 1+just || e != api.OK {
				t.Errorf("P6.1: next %d, %d", next, e)
			}
		}
	}
}

// P6.2: with one page too few a record has no room; a shorter one may have it.
func TestOnePageShort(t *testing.T) {
	for n := 2; n <= 38; n++ {
		d := formatted(t, 0)
		b := opens(t, d, 0, 20+1+n-1)
		appends(t, b, "a")
		short, long := text((n-1)*108-2), text((n-1)*108-1)
		made(t, "Append", b.Append([]byte(long)), api.ErrFull)
		if s, e := d.Read(21); s != (sector{}) || e != api.OK || b.Len() != 1 {
			t.Fatalf("P6.2: %x, %d", s, e)
		}
		appends(t, b, short)
		opens(t, d, 0, 20+n, "a", short)
	}
}

// P6.1: pages that stand behind the book's end are none of its: a book that is opened with fewer sectors has fewer records.
func TestSmaller(t *testing.T) {
	d := formatted(t, 0)
	appends(t, opens(t, d, 0, 40), "a", text(300), "c")
	for size := 21; size < 30; size++ {
		want := []string{"a", text(300), "c"}
		switch {
		case size < 24:
			want = want[:1]
		case size < 25:
			want = want[:2]
		}
		if got := peeks(t, d, 0, size); !slices.Equal(got, want) {
			t.Errorf("P6.1: %d records of %d sectors", len(got), size)
		}
		opens(t, d, 0, size, want...)
	}
}

// row lays three records, of which the second one has three pages.
func row(t *testing.T) *disk.Disk {
	t.Helper()
	d := formatted(t, 0)
	setLife(t, d, 0, 7)
	lay(t, d, 20, pages(3, 1, "a"))
	lay(t, d, 21, pages(4, 2, text(300)))
	lay(t, d, 24, pages(5, 3, "c"))
	return d
}

// has fails unless Peek and Open tell these records.
func has(t *testing.T, d *disk.Disk, size int, want ...string) {
	t.Helper()
	if got := peeks(t, d, 0, size); !slices.Equal(got, want) {
		t.Fatalf("Peek: %.9q and not %.9q", got, want)
	}
	opens(t, d, 0, size, want...)
}

// P6.1: a page of which any bit of the head is another one, or that is lost, is none of the record; and what stands behind is not told.
func TestPageSpoilt(t *testing.T) {
	has(t, row(t), 40, "a", text(300), "c")
	for page := range 3 {
		for bit := range 160 {
			d := row(t)
			s, _ := d.Read(21 + page)
			s[bit/8] ^= 1 << (bit % 8)
			lay(t, d, 21+page, []sector{s})
			has(t, d, 40, "a")
		}
		d := row(t)
		lose(t, d, 21+page)
		has(t, d, 40, "a")
		lay(t, d, 21+page, make([]sector, 1))
		has(t, d, 40, "a")
		lay(t, d, 21+page, pages(4, 2, text(300))[page:page+1])
		has(t, d, 40, "a", text(300), "c")
	}
	d := row(t)
	lose(t, d, 20)
	has(t, d, 40)
	d = row(t)
	lose(t, d, 24)
	has(t, d, 40, "a", text(300))
}

// P6.1: a page that is loose can be read, too; one whose power went is as picked.
func TestPageLoose(t *testing.T) {
	d := row(t)
	made(t, "Write", d.Write(25, pages(6, 4, "d")[0]), api.OK)
	if got := peeks(t, d, 0, 40); len(got) != 4 {
		t.Errorf("P6.1: %d records", len(got))
	}
	d.Off()
	made(t, "On", d.On(), api.OK)
	has(t, d, 40, "a", text(300), "c")
}

// P6.1: the numbers are 1, 2, ..; a record of another one is none, though all its pages say so.
func TestNumbers(t *testing.T) {
	for _, number := range []uint64{0, 1, 3, 4, 2 + 1<<8, 2 + 1<<16, 2 + 1<<32, 2 + 1<<63, math.MaxUint64} {
		d := row(t)
		lay(t, d, 21, pages(4, number, text(300)))
		has(t, d, 40, "a")
	}
	for _, number := range []uint64{0, 2, 1 << 32} {
		d := row(t)
		lay(t, d, 20, pages(3, number, "a"))
		has(t, d, 40)
	}
}

// P6.1: no life is 0, or less than that of the record ahead, or more than the book's, which is that of this Open.
func TestLives(t *testing.T) {
	for _, x := range []struct {
		lives []uint64
		want  int
	}{
		{[]uint64{1, 1, 1}, 3}, {[]uint64{1, 2, 3}, 3}, {[]uint64{8, 8, 8}, 3}, {[]uint64{1, 8, 8}, 3}, {[]uint64{7, 7, 8}, 3},
		{[]uint64{0, 1, 1}, 0}, {[]uint64{0, 0, 0}, 0}, {[]uint64{1, 0, 1}, 1}, {[]uint64{1, 1, 0}, 2},
		{[]uint64{2, 1, 2}, 1}, {[]uint64{2, 2, 1}, 2}, {[]uint64{1, 3, 2}, 2}, {[]uint64{8, 7, 8}, 1},
		{[]uint64{9, 9, 9}, 0}, {[]uint64{8, 9, 9}, 1}, {[]uint64{1, 1, 9}, 2}, {[]uint64{1, 9, 2}, 1},
		{[]uint64{math.MaxUint64, 1, 1}, 0}, {[]uint64{1, 1 << 63, 1}, 1}, {[]uint64{1 << 32, 1, 1}, 0}, {[]uint64{1, 1<<32 + 1, 1}, 1}, {[]uint64{1, 1 << 8, 1}, 1},
	} {
		for _, long := range []int{1, 300} {
			d := formatted(t, 0)
			setLife(t, d, 0, 7)
			next := 20
			var want []string
			for i, life := range x.lives {
				s := text(long + i)
				lay(t, d, next, pages(life, uint64(i+1), s))
				next += needs(len(s))
				want = append(want, s)
			}
			has(t, d, 60, want[:x.want]...)
		}
	}
}

// P6.1: a record has just as many pages as it needs: no more, no fewer, none.
func TestOtherPages(t *testing.T) {
	for _, n := range []int{0, 106, 107, 300, 322, 323, 4000} {
		for _, x := range []int{-1, 0, 1, 2, 256} {
			d := row(t)
			lay(t, d, 24, make([]sector, 1))
			said := needs(n) + x
			lay(t, d, 24, spread(5, 3, raw(text(n), said)[:max(said, 0)*108], said))
			want := []string{"a", text(300)}
			if x == 0 {
				want = append(want, text(n))
			}
			has(t, d, 400, want...)
		}
	}
	d := row(t)
	none := pages(5, 3, "c")
	none[0][19] = 0 // of no pages at all
	lay(t, d, 24, none)
	has(t, d, 40, "a", text(300))
	for _, r := range []string{"", "c"} { // and though the page that is told has the record whole, and others follow
		d = row(t)
		lay(t, d, 24, spread(5, 3, raw(r, 2), 2))
		lay(t, d, 26, pages(5, 4, "d"))
		has(t, d, 40, "a", text(300))
	}
}

// P6.1: a record that says more bytes than may be is none, though its pages are as many as it needs.
func TestLengthAbove(t *testing.T) {
	for _, n := range []int{api.MaxRecord + 1, 4102, 4103, 4210, 8192, 32768, 65535} {
		d := row(t)
		lay(t, d, 24, pages(5, 3, text(n)))
		lay(t, d, 24+needs(n), pages(5, 4, "d"))
		has(t, d, 2000, "a", text(300))
	}
	d := row(t)
	lay(t, d, 24, pages(5, 3, text(api.MaxRecord)))
	lay(t, d, 24+38, pages(5, 4, "d"))
	has(t, d, 2000, "a", text(300), text(api.MaxRecord), "d")
}

// P6.1: a byte behind a record's bytes that is no nought, wherever it stands in the page.
func TestByteBehind(t *testing.T) {
	for _, n := range []int{0, 1, 104, 105, 107, 108, 300, 321, 4095, 4096} {
		last := needs(n) - 1
		for place := n + 2; place < (last+1)*108; place++ {
			d := row(t)
			l := pages(5, 3, text(n))
			l[last][20+place-last*108] = byte(1 << (place % 8))
			lay(t, d, 24, l)
			has(t, d, 100, "a", text(300))
		}
	}
}

// P6.1: pages in another order, twice, or one wanting, are no record.
func TestPagesOtherwise(t *testing.T) {
	l := pages(4, 2, text(300))
	for _, order := range [][]int{{0, 2, 1}, {1, 0, 2}, {2, 1, 0}, {0, 0, 1}, {0, 1, 1}, {1, 2}, {0, 2}, {0, 0, 1, 2}, {1, 2, 0}} {
		d := row(t)
		lay(t, d, 21, make([]sector, 3))
		for i, page := range order {
			lay(t, d, 21+i, l[page:page+1])
		}
		has(t, d, 40, "a")
	}
	d := row(t)
	other := pages(4, 2, text(250)) // of three pages, too: what is told is what stands there
	lay(t, d, 21, []sector{l[0], other[1], l[2]})
	has(t, d, 40, "a", text(106+108)+text(300)[214:], "c")
}

// P6.1: Peek writes nothing: all sectors are as they were, and the power does not go.
func TestPeekWritesNothing(t *testing.T) {
	d := row(t)
	var was []sector
	for i := range 60 {
		s, _ := d.Read(i)
		was = append(was, s)
	}
	d.Fuse(0)
	for range 3 {
		life, l, next, e := book.Peek(d, 0, 40)
		if life != 7 || !slices.Equal(texts(l), []string{"a", text(300), "c"}) || next != 25 || e != api.OK {
			t.Errorf("P6.1: %d, %d records, %d, %d", life, len(l), next, e)
		}
	}
	for i, want := range was {
		if s, _ := d.Read(i); s != want {
			t.Errorf("P6.1: sector %d is another one", i)
		}
	}
	if !d.Power() || d.Loose() != 0 {
		t.Error("P6.1: something was written")
	}
}

// P6.1: Open writes nothing but the cell.
func TestOpenWritesTheCell(t *testing.T) {
	d := row(t)
	var was []sector
	for i := 20; i < 60; i++ {
		s, _ := d.Read(i)
		was = append(was, s)
	}
	d.Fuse(11)
	opens(t, d, 0, 40, "a", text(300), "c")
	if !d.Power() || d.Loose() != 0 {
		t.Error("P6.1: more calls than those of a Put")
	}
	for i, want := range was {
		if s, _ := d.Read(20 + i); s != want {
			t.Errorf("P6.1: sector %d is another one", 20+i)
		}
	}
}

// P6.2: Append writes page by page, from the first one on, and nothing else.
func TestOrder(t *testing.T) {
	for n := range 4 {
		d := row(t)
		b := opens(t, d, 0, 40, "a", text(300), "c")
		d.Fuse(n)
		made(t, "Append", b.Append([]byte(text(400))), api.ErrPower)
		if d.Loose() != n+1 {
			t.Errorf("P6.2: %d are loose behind %d", d.Loose(), n)
		}
		made(t, "On", d.On(bytes.Repeat([]byte{1}, n+1)...), api.OK)
		for i, want := range pages(8, 4, text(400)) {
			if i > n {
				want = sector{}
			}
			if s, _ := d.Read(25 + i); s != want {
				t.Errorf("P6.2: behind %d page %d is %x", n, i, s)
			}
		}
		if s, _ := d.Read(24); s != pages(5, 3, "c")[0] {
			t.Errorf("P6.2: the record ahead is %x", s)
		}
	}
}

// P6.2: once an Append had the disk's error all others have it too, though the power is on again; nothing is done any more.
func TestAppendBehindAnError(t *testing.T) {
	for n := range 5 {
		d := formatted(t, 0)
		b := opens(t, d, 0, 25)
		appends(t, b, "was")
		if n == 4 {
			d.Off()
		} else {
			d.Fuse(n)
		}
		made(t, "Append", b.Append([]byte(text(300))), api.ErrPower)
		made(t, "Append", b.Append(nil), api.ErrPower)
		made(t, "On", d.On(), api.OK)
		for _, s := range []string{"", "more", text(api.MaxRecord)} { // a long one, too, though it has no room
			made(t, "Append", b.Append([]byte(s)), api.ErrPower)
			made(t, "Append", b.Append(make([]byte, api.MaxRecord+1)), api.ErrMany)
			if b.Len() != 1 || d.Loose() != 0 {
				t.Errorf("P6.2: Len %d, %d are loose", b.Len(), d.Loose())
			}
		}
		b = opens(t, d, 0, 25, "was")
		appends(t, b, "more")
		opens(t, d, 0, 25, "was", "more")
	}
}

// P6.2: what has no room has not had the disk's error: the power is not asked about, and the book goes on.
func TestFullAndOff(t *testing.T) {
	d := formatted(t, 0)
	b := opens(t, d, 0, 22)
	appends(t, b, "a")
	d.Off()
	made(t, "Append", b.Append([]byte(text(300))), api.ErrFull)
	made(t, "On", d.On(), api.OK)
	appends(t, b, "b")
	opens(t, d, 0, 22, "a", "b")
}

// picked: picks for so many loose writes.
func picked(n int) [][]byte {
	out := [][]byte{nil, {1}, bytes.Repeat([]byte{1}, max(n-1, 0)), bytes.Repeat([]byte{7}, n)}
	for pick := range byte(4) {
		out = append(out, bytes.Repeat([]byte{pick}, n))
		for i := range n {
			one := bytes.Repeat([]byte{1}, n)
			one[i] = pick
			out = append(out, one, append(bytes.Repeat([]byte{pick}, i), one[i:]...))
		}
	}
	return out
}

// done: are so many writes done by these picks?
func done(picks []byte, n int) bool {
	for _, p := range picks {
		if p%2 != 1 {
			return false
		}
	}
	return len(picks) >= n
}

// P6.3: wherever the power goes in an Append, and whatever is picked, alike for all pages or for some of them alone.
func TestPower(t *testing.T) {
	for _, size := range []int{0, 106, 107, 300, 400} {
		count := needs(size)
		for n := range count + 2 {
			for _, picks := range picked(count) {
				d := formatted(t, 2)
				b := opens(t, d, 2, 60)
				appends(t, b, "was", text(200))
				d.Fuse(n)
				e := b.Append([]byte(text(size)))
				if (e == api.OK) != (n == count+1) || e != api.OK && e != api.ErrPower {
					t.Fatalf("P6.2: behind %d calls: %d", n, e)
				}
				d.Off()
				made(t, "On", d.On(picks...), api.OK)
				want := []string{"was", text(200)}
				if e == api.OK || n >= count-1 && done(picks, count) {
					want = append(want, text(size))
				}
				b = opens(t, d, 2, 60, want...)
				appends(t, b, "more")
				opens(t, d, 2, 60, append(want, "more")...)
			}
		}
	}
}

// P6.3: the same of a record of as many pages as may be.
func TestPowerOfTheLongest(t *testing.T) {
	long := text(api.MaxRecord)
	for n := range 40 {
		for pick := range byte(4) {
			d := formatted(t, 0)
			b := opens(t, d, 0, 100)
			d.Fuse(n)
			made(t, "Append", b.Append([]byte(long)), []api.Errno{api.ErrPower, api.OK}[n/39])
			d.Off()
			made(t, "On", d.On(bytes.Repeat([]byte{pick}, 38)...), api.OK)
			var want []string
			if n == 39 || n >= 37 && pick%2 == 1 {
				want = append(want, long)
			}
			appends(t, opens(t, d, 0, 100, want...), "more")
			opens(t, d, 0, 100, append(want, "more")...)
		}
	}
}

// P6.3: the power goes in one Append after the other, the book opened anew in between; pages of several of them never make one record, nor does one of an earlier life come again.
func TestPowerAgainAndAgain(t *testing.T) {
	lone := func(i int) []byte { return append(make([]byte, i), 1) }
	for first := range 8 {
		for second := range 8 {
			for _, size := range []int{0, 300, 301} {
				d := formatted(t, 0)
				b := opens(t, d, 0, 60)
				d.Fuse(2)
				made(t, "Append", b.Append([]byte(text(300))), api.ErrPower)
				made(t, "On", d.On(byte(first), byte(first>>1), byte(first>>2)), api.OK)
				want := peeks(t, d, 0, 60)
				if len(want) > 1 || (len(want) == 1) != (first == 7) || len(want) == 1 && want[0] != text(300) {
					t.Fatalf("P6.3: %d records behind %d", len(want), first)
				}
				b = opens(t, d, 0, 60, want...)
				d.Fuse(second % 4)
				e := b.Append([]byte(text(size)))
				d.Off()
				made(t, "On", d.On(lone(second/4)...), api.OK)
				if e == api.OK || size == 0 && second/4 == 0 {
					want = append(want, text(size))
				}
				appends(t, opens(t, d, 0, 60, want...), "more")
				opens(t, d, 0, 60, append(want, "more")...)
			}
		}
	}
}

// P6.3: records whose first one is spoilt do not come again behind those of a later life, whether they need as many pages or others.
func TestGhosts(t *testing.T) {
	for _, s := range []string{"c", text(106), text(107), text(300)} {
		d := formatted(t, 0)
		appends(t, opens(t, d, 0, 60), "a", "b", "x", "y", "z")
		l := pages(1, 1, "a")
		l[0][20] = 0xff
		lay(t, d, 20, l)
		appends(t, opens(t, d, 0, 60), s)
		appends(t, opens(t, d, 0, 60, s), "more")
		opens(t, d, 0, 60, s, "more")
	}
}

// P6.1, P6.3: the power goes in Open's Put, whatever is picked: nothing is told then; opened again the records are there, and the life has risen by one at most.
func TestPowerOfOpen(t *testing.T) {
	for n := range 11 {
		for pick := range byte(4) {
			d := formatted(t, 0)
			appends(t, opens(t, d, 0, 60), "a", text(300))
			appends(t, opens(t, d, 0, 60, "a", text(300)), "b")
			d.Fuse(n)
			if b, l, e := book.Open(d, 0, 60); b != nil || len(l) != 0 || e != api.ErrPower {
				t.Fatalf("P6.1: behind %d: %v, %d records, %d", n, b, len(l), e)
			}
			made(t, "On", d.On(bytes.Repeat([]byte{pick}, 10)...), api.OK)
			life := uint64(2)
			if n >= 9 && pick%2 == 1 {
				life = 3
			}
			got, l, next, e := book.Peek(d, 0, 60)
			if got != life || !slices.Equal(texts(l), []string{"a", text(300), "b"}) || next != 25 || e != api.OK {
				t.Fatalf("P6.1: behind %d, pick %d: life %d and not %d, %d records, %d, %d", n, pick, got, life, len(l), next, e)
			}
			appends(t, opens(t, d, 0, 60, texts(l)...), "c")
			if s, _ := d.Read(25); s != pages(life+1, 4, "c")[0] {
				t.Errorf("P6.2: %x", s)
			}
			opens(t, d, 0, 60, "a", text(300), "b", "c")
		}
	}
}

// P6.1, P6.3: opened again and again, with and without records that come in between: all stand with the life in which they were put.
func TestAgainAndAgain(t *testing.T) {
	d := formatted(t, 0)
	var want []string
	for life := uint64(1); life < 40; life++ {
		b := opens(t, d, 0, 60, want...)
		if life%3 == 0 {
			continue
		}
		want = append(want, text(int(life)%5))
		appends(t, b, want[len(want)-1])
		if s, _ := d.Read(19 + len(want)); s != pages(life, uint64(len(want)), want[len(want)-1])[0] {
			t.Fatalf("P6.2: %x in the life %d", s, life)
		}
	}
}

// P6.1, R3: what Open and Peek tell is new memory, each record its own, the room behind its end too.
func TestMemoryTold(t *testing.T) {
	d := row(t)
	want := []string{"a", text(300), "c"}
	for i := range want {
		_, one, _ := book.Open(d, 0, 40)
		_, two, _, _ := book.Peek(d, 0, 40)
		_, other, _, _ := book.Peek(d, 0, 40)
		for _, l := range [][][]byte{one, two} {
			clear(l[i])
			_ = append(l[i], "~~~~~~~~~~"...)
			for j, r := range l {
				if j != i && string(r) != want[j] {
					t.Errorf("P6.1: the record %d shares memory with the record %d", j+1, i+1)
				}
			}
		}
		if !slices.Equal(texts(other), want) {
			t.Errorf("P6.1: %.9q", texts(other))
		}
	}
	opens(t, d, 0, 40, want...)
}

// P6.2, R3: what Append is given is neither changed nor kept, the room behind its end neither.
func TestMemoryGiven(t *testing.T) {
	for _, n := range []int{0, 2, 106, 300} {
		d := formatted(t, 0)
		b := opens(t, d, 0, 40)
		room := []byte(text(n) + strings.Repeat("~", 200))
		made(t, "Append", b.Append(room[:n]), api.OK)
		if string(room) != text(n)+strings.Repeat("~", 200) {
			t.Errorf("P6.2: %q was handed in", room)
		}
		clear(room)
		appends(t, b, "b")
		opens(t, d, 0, 40, text(n), "b")
	}
}

// P6.2: no bytes, as nil or as an empty list, are a record.
func TestAppendNothing(t *testing.T) {
	d := formatted(t, 0)
	b := opens(t, d, 0, 40)
	made(t, "Append", b.Append(nil), api.OK)
	made(t, "Append", b.Append([]byte{}), api.OK)
	if b.Len() != 2 {
		t.Errorf("P6.2: Len %d", b.Len())
	}
	opens(t, d, 0, 40, "", "")
}

// P6.1, P6.2: books side by side on a disk, and on two disks, are each its own.
func TestSideBySide(t *testing.T) {
	d, other := formatted(t, 0), formatted(t, 24)
	made(t, "Format", book.Format(d, 24), api.OK)
	a, b, c := opens(t, d, 0, 24), opens(t, d, 24, 30), opens(t, other, 24, 30)
	appends(t, a, "a", "b")
	appends(t, b, text(300))
	appends(t, a, text(200))
	appends(t, c, "other")
	made(t, "Append", a.Append(nil), api.ErrFull)
	opens(t, d, 0, 24, "a", "b", text(200))
	opens(t, d, 24, 30, text(300))
	opens(t, other, 24, 30, "other")
}

// The chapter's examples.
func TestExamples(t *testing.T) {
	d := formatted(t, 0)
	b := opens(t, d, 0, 40)
	appends(t, b, "ab")
	opens(t, d, 0, 40, "ab")
}
