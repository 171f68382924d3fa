package cell_test

import (
	"encoding/binary"
	"math/rand"
	"strings"
	"testing"

	"ratchet/api"
	"ratchet/cell"
	"ratchet/disk"
)

type sector = [disk.Sector]byte

// raw: the 120 bytes of which each sector of a slot has a part behind its count.
func raw(b string) string {
	s := string([]byte{byte(len(b) >> 8), byte(len(b))}) + b
	return s + strings.Repeat("\x00", 1200-len(s))
}

// slot: the sectors of one, as the chapter's words say it.
func slot(count uint64, all string) [10]sector {
	var out [10]sector
	for i := range out {
		binary.BigEndian.PutUint64(out[i][:8], count)
		copy(out[i][8:], all[i*120:(i+1)*120])
	}
	return out
}

// lay writes a slot on a disk, past the cell, and syncs it.
func lay(t *testing.T, d *disk.Disk, at int, sectors [10]sector) {
	t.Helper()
	for i, s := range sectors {
		made(t, "Write", d.Write(at+i, s), api.OK)
	}
	made(t, "Sync", d.Sync(), api.OK)
}

// lose makes that a sector cannot be read; nothing else on the disk is another then.
func lose(t *testing.T, d *disk.Disk, at int) {
	t.Helper()
	made(t, "Sync", d.Sync(), api.OK)
	made(t, "Write", d.Write(at, sector{}), api.OK)
	d.Off()
	made(t, "On", d.On(2), api.OK)
	if _, e := d.Read(at); e != api.ErrLost {
		t.Errorf("Read(%d) = %d and not lost", at, e)
	}
}

// told: the count that a whole slot has, and its bytes; 0 if it is not whole.
func told(d *disk.Disk, at int) (uint64, string) {
	var all string
	counts := map[uint64]bool{}
	for i := range 10 {
		s, e := d.Read(at + i)
		if e != api.OK {
			return 0, ""
		}
		counts[binary.BigEndian.Uint64(s[:8])] = true
		all += string(s[8:])
	}
	n := int(all[0])<<8 + int(all[1])
	if len(counts) != 1 || n > 1100 || strings.Trim(all[2+n:], "\x00") != "" {
		return 0, ""
	}
	for count := range counts {
		return count, all[2 : 2+n]
	}
	return 0, ""
}

// held: what the cell at that place has, and in which slot; no, if no slot is whole.
func held(d *disk.Disk, at int) (string, int, bool) {
	one, a := told(d, at)
	two, b := told(d, at+10)
	if one == 0 && two == 0 {
		return "", 0, false
	}
	if two > one {
		return b, 1, true
	}
	return a, 0, true
}

// next: one more than all counts that can be read in the cell.
func next(d *disk.Disk, at int) uint64 {
	most := uint64(0)
	for i := range 20 {
		if s, e := d.Read(at + i); e == api.OK {
			most = max(most, binary.BigEndian.Uint64(s[:8]))
		}
	}
	return most + 1
}

// anyBytes: as many as may be, or fewer; often so many that a sector is just full.
func anyBytes(r *rand.Rand) string {
	n := r.Intn(cell.Bytes + 1)
	switch r.Intn(3) {
	case 0:
		n = r.Intn(4)
	case 1:
		n = min(120*(1+r.Intn(10))-3+r.Intn(3), cell.Bytes)
	}
	b := make([]byte, n)
	r.Read(b)
	return string(b)
}

// scribble does something to a cell's sectors that no Put does, and syncs it.
func scribble(t *testing.T, r *rand.Rand, d *disk.Disk, at int) {
	t.Helper()
	where := at + r.Intn(cell.Size)
	s, e := d.Read(where)
	switch r.Intn(4) {
	case 0:
		lose(t, d, where)
	case 1:
		if e == api.OK {
			s[r.Intn(len(s))] ^= 1 << r.Intn(8)
			made(t, "Write", d.Write(where, s), api.OK)
		}
	case 2:
		from := at + 10*r.Intn(2)
		lay(t, d, from, slot(uint64(r.Intn(8)), raw(anyBytes(r))))
	case 3:
		binary.BigEndian.PutUint64(s[:8], uint64(r.Intn(8)))
		made(t, "Write", d.Write(where, s), api.OK)
	}
	made(t, "Sync", d.Sync(), api.OK)
}

// watched is a cell, and what is known of it without asking it.
type watched struct {
	d     *disk.Disk
	at    int
	c     *cell.Cell
	has   string // what it has
	slot  int    // the slot where that stands
	tried string // what the Put had at which the power went
}

// P5.2, P5.3, P5.4: whatever is done to a cell, it has what the chapter's words say, and so have its sectors.
func TestAsThePlainWords(t *testing.T) {
	for seed := range int64(150) {
		r := rand.New(rand.NewSource(seed))
		w := watched{d: disk.New(), at: r.Intn(40)}
		made(t, "Format", cell.Format(w.d, w.at), api.OK)
		for range 30 {
			if !w.opened(t) {
				made(t, "Format", cell.Format(w.d, w.at), api.OK)
				continue
			}
			for range r.Intn(4) {
				if w.d.Power() {
					w.put(t, r)
				}
			}
			if !w.d.Power() {
				w.crash(t, r)
			} else if r.Intn(3) == 0 {
				scribble(t, r, w.d, w.at)
			}
		}
	}
}

// opened: is it there? It is, just if it is to be.
func (w *watched) opened(t *testing.T) bool {
	t.Helper()
	var ok bool
	w.has, w.slot, ok = held(w.d, w.at)
	if !ok {
		refused(t, w.d, w.at, api.ErrLost)
		return false
	}
	w.c = opens(t, w.d, w.at, w.has)
	return true
}

// put does a Put, at times with a fuse that ends in it.
func (w *watched) put(t *testing.T, r *rand.Rand) {
	t.Helper()
	b, n, left := anyBytes(r), next(w.d, w.at), r.Intn(22)
	w.d.Fuse(left)
	e := w.c.Put([]byte(b))
	if left < 11 {
		w.tried = b
		made(t, "Put", e, api.ErrPower)
		if w.d.Power() || string(w.c.Get()) != w.has || w.d.Loose() != min(left+1, 10) {
			t.Fatalf("a Put at which the power is gone: %d loose", w.d.Loose())
		}
		return
	}
	w.d.Fuse(-1)
	made(t, "Put", e, api.OK)
	w.has, w.slot = b, 1-w.slot
	if string(w.c.Get()) != b || w.d.Loose() != 0 {
		t.Fatalf("a Put: %d loose", w.d.Loose())
	}
	for i, want := range slot(n, raw(b)) {
		if s, e := w.d.Read(w.at + 10*w.slot + i); s != want || e != api.OK {
			t.Fatalf("a Put wrote %x, %d and not %x", s, e, want)
		}
	}
}

// crash: the power comes again, by any picks; the cell has what it had, or what was tried.
func (w *watched) crash(t *testing.T, r *rand.Rand) {
	t.Helper()
	picks := make([]byte, r.Intn(13))
	r.Read(picks)
	if r.Intn(3) == 0 {
		picks = []byte{1, 3, 5, 7, 1, 3, 5, 7, 1, 3}
	}
	made(t, "On", w.d.On(picks...), api.OK)
	made(t, "Put behind an error", w.c.Put(nil), api.ErrPower)
	c, e := cell.Open(w.d, w.at)
	if e != api.OK || string(c.Get()) != w.has && string(c.Get()) != w.tried {
		t.Fatalf("P5.4: %d, and neither what it had nor what was tried", e)
	}
}
