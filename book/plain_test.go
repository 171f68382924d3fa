package book_test

import (
	"encoding/binary"
	"math/rand"
	"slices"
	"strings"
	"testing"

	"ratchet/api"
	"ratchet/book"
	"ratchet/cell"
	"ratchet/disk"
)

type sector = [disk.Sector]byte

// raw: a record's length and its bytes, and noughts behind up to so many pages.
func raw(r string, pages int) string {
	all := string([]byte{byte(len(r) >> 8), byte(len(r))}) + r
	return all + strings.Repeat("\x00", max(pages*108-len(all), 0))
}

// needs: how many pages a record of n bytes does.
func needs(n int) int {
	pages := 1
	for pages*108 < n+2 {
		pages++
	}
	return pages
}

// spread: what stands in the pages, as many as it says, as the chapter's words say it.
func spread(life, number uint64, all string, pages int) []sector {
	out := make([]sector, pages)
	for i := range out {
		binary.BigEndian.PutUint64(out[i][:8], life)
		binary.BigEndian.PutUint64(out[i][8:16], number)
		binary.BigEndian.PutUint16(out[i][16:18], uint16(i))
		binary.BigEndian.PutUint16(out[i][18:20], uint16(pages))
		copy(out[i][20:], all[i*108:(i+1)*108])
	}
	return out
}

// pages: those of a record.
func pages(life, number uint64, r string) []sector {
	n := needs(len(r))
	return spread(life, number, raw(r, n), n)
}

// lay writes sectors on a disk, past the book, and syncs them.
func lay(t *testing.T, d *disk.Disk, at int, sectors []sector) {
	t.Helper()
	for i, s := range sectors {
		made(t, "Write", d.Write(at+i, s), api.OK)
	}
	made(t, "Sync", d.Sync(), api.OK)
}

// lose makes that a sector cannot be read; nothing else on the disk is another then.
func lose(t *testing.T, d *disk.Disk, at int) {
	t.Helper()
	made(t, "Sync", d.Sync(), api.OK)
	made(t, "Write", d.Write(at, sector{}), api.OK)
	d.Off()
	made(t, "On", d.On(2), api.OK)
	if _, e := d.Read(at); e != api.ErrLost {
		t.Errorf("Read(%d) = %d and not lost", at, e)
	}
}

// stands: the record of that number that begins at a sector, its life, and in how many pages; 0, if there is none.
func stands(d *disk.Disk, from, end int, number uint64) (string, uint64, int) {
	s, e := d.Read(from)
	life, size := binary.BigEndian.Uint64(s[:8]), int(s[20])<<8+int(s[21])
	n := needs(size)
	if e != api.OK || size > api.MaxRecord || from+n > end {
		return "", 0, 0
	}
	var got []sector
	var all string
	for i := range n {
		s, e := d.Read(from + i)
		if e != api.OK {
			return "", 0, 0
		}
		got = append(got, s)
		all += string(s[20:])
	}
	r := all[2 : 2+size]
	if !slices.Equal(got, pages(life, number, r)) {
		return "", 0, 0
	}
	return r, life, n
}

// tells: the records of a book of that life, and the sector of the page behind them.
func tells(d *disk.Disk, at, size int, life uint64) ([]string, int) {
	next, ahead := at+20, uint64(1)
	var out []string
	for {
		r, its, n := stands(d, next, at+size, uint64(len(out))+1)
		if n == 0 || its < ahead || its > life {
			return out, next
		}
		out, next, ahead = append(out, r), next+n, its
	}
}

// lifeOf: the life that a book's cell has.
func lifeOf(t *testing.T, d *disk.Disk, at int) uint64 {
	t.Helper()
	c, e := cell.Open(d, at)
	made(t, "cell.Open", e, api.OK)
	if len(c.Get()) == 0 {
		return 0
	}
	return binary.BigEndian.Uint64(c.Get())
}

// anyRecord: often so many bytes that a page is just full, at times many.
func anyRecord(r *rand.Rand) string {
	n := r.Intn(300)
	switch r.Intn(6) {
	case 0:
		n = r.Intn(3)
	case 1, 2:
		n = 108*(1+r.Intn(4)) - 3 + r.Intn(3)
	case 3:
		n = r.Intn(api.MaxRecord + 1)
	}
	b := make([]byte, n)
	r.Read(b)
	return string(b)
}

// watched is a book, and what is known of it without asking it.
type watched struct {
	d        *disk.Disk
	at, size int
	b        *book.Book
	life     uint64
	has      []string
	tried    []string // what was put at last, if the power went in it
}

// P6.1, P6.2, P6.3: whatever is done to a book, and wherever the power goes, it has all records that were put, and at most that which was under way; and its sectors have what the chapter's words say.
func TestAsThePlainWords(t *testing.T) {
	for seed := range int64(200) {
		r := rand.New(rand.NewSource(seed))
		w := watched{d: disk.New(), at: r.Intn(40), size: 21 + r.Intn(150)}
		made(t, "Format", book.Format(w.d, w.at), api.OK)
		for range 25 {
			w.peeked(t)
			if r.Intn(4) == 0 {
				w.d.Fuse(r.Intn(11))
			}
			w.opened(t)
			for range r.Intn(5) {
				if w.d.Power() {
					w.appended(t, r)
				}
			}
			if !w.d.Power() {
				w.again(t, r)
			}
		}
	}
}

// peeked: Peek tells what the disk has, and changes nothing.
func (w *watched) peeked(t *testing.T) {
	t.Helper()
	life, _, next, e := book.Peek(w.d, w.at, w.size)
	want, page := tells(w.d, w.at, w.size, lifeOf(t, w.d, w.at)+1)
	if e != api.OK || life != lifeOf(t, w.d, w.at) || next != page || w.d.Loose() != 0 {
		t.Fatalf("P6.1: Peek: %d, life %d, next %d and not %d", e, life, next, page)
	}
	if !slices.Equal(peeks(t, w.d, w.at, w.size), want) {
		t.Fatalf("P6.1: Peek does not tell what stands there")
	}
}

// opened opens the book: it tells what was put, and perhaps what was tried; the power may go in its Put.
func (w *watched) opened(t *testing.T) {
	t.Helper()
	was := lifeOf(t, w.d, w.at)
	b, l, e := book.Open(w.d, w.at, w.size)
	if e == api.ErrPower {
		if b != nil || l != nil || w.d.Power() {
			t.Fatalf("P6.1: Open at which the power goes tells something")
		}
		return
	}
	got := texts(l)
	if e != api.OK || b.Len() != len(got) || !slices.Equal(got, w.has) && !slices.Equal(got, append(slices.Clone(w.has), w.tried...)) {
		t.Fatalf("P6.3: Open: %d, %d records and not %d", e, len(got), len(w.has))
	}
	w.b, w.has, w.tried, w.life = b, got, nil, was+1
	if lifeOf(t, w.d, w.at) != w.life {
		t.Fatalf("P6.1: life %d behind %d", lifeOf(t, w.d, w.at), was)
	}
	w.d.Fuse(-1)
}

// appended does an Append, at times with a fuse that ends in it.
func (w *watched) appended(t *testing.T, r *rand.Rand) {
	t.Helper()
	s := anyRecord(r)
	_, next := tells(w.d, w.at, w.size, w.life)
	left := 1 << 20
	if r.Intn(3) == 0 {
		left = r.Intn(needs(len(s)) + 1)
	}
	w.d.Fuse(left)
	e := w.b.Append([]byte(s))
	switch {
	case next+needs(len(s)) > w.at+w.size:
		made(t, "Append", e, api.ErrFull)
		if w.d.Loose() != 0 || !w.d.Power() {
			t.Fatalf("P6.2: a record that has no room is written")
		}
	case left <= needs(len(s)):
		made(t, "Append", e, api.ErrPower)
		w.tried = []string{s}
	default:
		made(t, "Append", e, api.OK)
		w.has = append(w.has, s)
		for i, want := range pages(w.life, uint64(len(w.has)), s) {
			if got, e := w.d.Read(next + i); got != want || e != api.OK {
				t.Fatalf("P6.2: page %d is %x, %d and not %x", i, got, e, want)
			}
		}
	}
	if w.b.Len() != len(w.has) {
		t.Fatalf("P6.2: Len %d and not %d", w.b.Len(), len(w.has))
	}
	if w.d.Power() {
		w.d.Fuse(-1)
	}
}

// again: the power comes again, by any picks; the book that was open is dead, if it was told.
func (w *watched) again(t *testing.T, r *rand.Rand) {
	t.Helper()
	picks := make([]byte, r.Intn(45))
	r.Read(picks)
	if r.Intn(3) == 0 {
		picks = []byte(strings.Repeat("\x01\x03", 20))
	}
	made(t, "On", w.d.On(picks...), api.OK)
	if w.tried != nil {
		made(t, "Append behind an error", w.b.Append(nil), api.ErrPower)
	}
}

// P6.1: whatever stands in a book's pages, Open and Peek tell the records that stand there as the chapter's words say it.
func TestAnyPages(t *testing.T) {
	for seed := range int64(3000) {
		r := rand.New(rand.NewSource(seed))
		d, at, size := disk.New(), r.Intn(5), 21+r.Intn(16)
		made(t, "Format", book.Format(d, at), api.OK)
		life := uint64(1 + r.Intn(4))
		setLife(t, d, at, life)
		anyPages(t, r, d, at, size)
		want, next := tells(d, at, size, life+1)
		if got := peeks(t, d, at, size); !slices.Equal(got, want) {
			t.Fatalf("P6.1: seed %d: Peek tells %d records and not %d", seed, len(got), len(want))
		}
		if _, _, n, _ := book.Peek(d, at, size); n != next {
			t.Fatalf("P6.1: seed %d: next %d and not %d", seed, n, next)
		}
		opens(t, d, at, size, want...)
	}
}

// anyPages lays records of which most are as they are to be, and spoils some sectors.
func anyPages(t *testing.T, r *rand.Rand, d *disk.Disk, at, size int) {
	t.Helper()
	lives := uint64(1)
	number := uint64(1)
	for next := at + 20; next < at+size; number++ {
		lives += uint64(r.Intn(8) / 7)
		s := anyRecord(r)
		s = s[:min(len(s), 400)]
		l := pages(lives, number, s)
		if next+len(l) > at+size {
			l = l[:at+size-next] // one that is cut at the book's end
		}
		lay(t, d, next, l)
		next += len(l)
	}
	for range r.Intn(3) {
		where := at + 20 + r.Intn(size-20)
		if r.Intn(3) == 0 {
			lose(t, d, where)
			continue
		}
		s, e := d.Read(where)
		if e != api.OK {
			continue
		}
		if r.Intn(2) == 0 {
			s[r.Intn(24)] ^= 1 << r.Intn(3)
		} else {
			s[r.Intn(128)] ^= 1 << r.Intn(8)
		}
		lay(t, d, where, []sector{s})
	}
}
