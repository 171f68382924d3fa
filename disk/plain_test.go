package disk_test

import (
	"maps"
	"math/rand"
	"testing"

	"ratchet/api"
	"ratchet/disk"
)

// plain is a disk as the chapter's words say it, with all of its sectors copied at each Sync.
type plain struct {
	off       bool
	fuse      int // below 0: none
	now, then map[int]became
	loose     []loose
}

// loose is a write that was made since then.
type loose struct {
	at    int
	bytes bytes
}

func newPlain() *plain {
	return &plain{fuse: -1, now: map[int]became{}, then: map[int]became{}}
}

func (p *plain) read(at int) (bytes, api.Errno) {
	switch {
	case p.off:
		return bytes{}, api.ErrPower
	case at < 0 || at >= disk.Most:
		return bytes{}, api.ErrArg
	case p.now[at].lost:
		return bytes{}, api.ErrLost
	}
	return p.now[at].bytes, api.OK
}

// goes: does the power go at a call that would have no error?
func (p *plain) goes() bool {
	if p.fuse == 0 {
		p.off = true
	}
	p.fuse--
	if p.fuse < 0 {
		p.fuse = -1
	}
	return p.off
}

func (p *plain) write(at int, b bytes) api.Errno {
	if _, e := p.read(at); e == api.ErrPower || e == api.ErrArg {
		return e
	}
	p.now[at] = became{bytes: b}
	p.loose = append(p.loose, loose{at, b})
	if p.goes() {
		return api.ErrPower
	}
	return api.OK
}

func (p *plain) sync() api.Errno {
	if p.off || p.goes() {
		return api.ErrPower
	}
	p.then, p.loose = maps.Clone(p.now), nil
	return api.OK
}

func (p *plain) on(picks []uint8) api.Errno {
	if !p.off {
		return api.ErrState
	}
	p.off, p.fuse = false, -1
	for i, w := range p.loose {
		if i >= len(picks) {
			break
		}
		switch picks[i] & 3 {
		case 1, 3:
			p.then[w.at] = became{bytes: w.bytes}
		case 2:
			p.then[w.at] = became{lost: true}
		}
	}
	p.now, p.loose = maps.Clone(p.then), nil
	return api.OK
}

// any sector: few, so that they are met again, and some of no sector.
func anySector(r *rand.Rand) int {
	return []int{-1, 0, 0, 1, 1, 2, 3, disk.Most - 1, disk.Most - 1, disk.Most}[r.Intn(10)]
}

// anyPicks: of all kinds, and not as many as there are writes.
func anyPicks(r *rand.Rand) []uint8 {
	picks := make([]uint8, r.Intn(8))
	r.Read(picks)
	return picks
}

// anyCall makes one call of both disks, and tells which one it was and whether the answers are alike.
func anyCall(r *rand.Rand, d *disk.Disk, p *plain) (string, bool) {
	switch r.Intn(12) {
	case 0, 1, 2, 3:
		at, b := anySector(r), pattern(byte(r.Int()))
		return "Write", d.Write(at, b) == p.write(at, b)
	case 4:
		return "Sync", d.Sync() == p.sync()
	case 5, 6:
		at := anySector(r)
		b, e := d.Read(at)
		want, f := p.read(at)
		return "Read", b == want && e == f
	case 7:
		n := r.Intn(9) - 2
		d.Fuse(n)
		p.fuse = max(n, -1)
		return "Fuse", true
	case 8:
		d.Off()
		p.off, p.fuse = true, -1
		return "Off", true
	}
	picks := anyPicks(r)
	return "On", d.On(picks...) == p.on(picks)
}

// P4.1, P4.2, P4.3: any calls, in any order, are answered as the plain disk answers them.
func TestAnyCalls(t *testing.T) {
	for seed := range 400 {
		r := rand.New(rand.NewSource(int64(seed)))
		d, p := disk.New(), newPlain()
		for i := range 300 {
			name, alike := anyCall(r, d, p)
			if !alike || d.Power() == p.off || d.Loose() != len(p.loose) {
				t.Fatalf("seed %d, call %d: %s, power %t, %d loose and not %d", seed, i, name, d.Power(), d.Loose(), len(p.loose))
			}
		}
		if !d.Power() {
			d.On()
			p.on(nil)
		}
		for _, at := range []int{0, 1, 2, 3, 4, disk.Most - 1} {
			b, e := d.Read(at)
			if want, f := p.read(at); b != want || e != f {
				t.Fatalf("seed %d: at the end sector %d is %x, %d and not %x, %d", seed, at, b[:4], e, want[:4], f)
			}
		}
	}
}

// P4.4: any writes, with any picks: no sector is anything but what it was, what a loose write for it wrote, or lost; one without any is what it was.
func TestAnyPicks(t *testing.T) {
	r := rand.New(rand.NewSource(4))
	for range 500 {
		d := disk.New()
		allowed := map[int]map[became]bool{0: {}, 1: {}, 2: {}, 3: {}, disk.Most - 1: {}}
		for range r.Intn(6) {
			d.Write(anySector(r), pattern(byte(r.Int())))
			d.Sync()
		}
		for at := range allowed {
			b, _ := d.Read(at)
			allowed[at][became{bytes: b}] = true
		}
		d.Fuse(r.Intn(12))
		for d.Power() && r.Intn(12) > 0 {
			at, b := anySector(r), pattern(byte(r.Int()))
			if d.Write(at, b) != api.ErrArg {
				allowed[at][became{bytes: b}] = true
				allowed[at][became{lost: true}] = true
			}
		}
		d.Off()
		d.On(anyPicks(r)...)
		for at, of := range allowed {
			if b, e := d.Read(at); !of[became{b, e == api.ErrLost}] {
				t.Fatalf("P4.4: sector %d became %x, %d", at, b[:4], e)
			}
		}
	}
}
