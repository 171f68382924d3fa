package disk_test

import (
	"math"
	"slices"
	"testing"

	"ratchet/api"
	"ratchet/disk"
)

type bytes = [disk.Sector]byte

// pattern: a sector's bytes, not two of a kind near each other, so that a part of it is told from the whole.
func pattern(c byte) bytes {
	var b bytes
	for i := range b {
		b[i] = c + byte(i)*7
	}
	return b
}

// reads fails unless the sector is read so.
func reads(t *testing.T, d *disk.Disk, at int, want bytes, e api.Errno) {
	t.Helper()
	if b, f := d.Read(at); b != want || f != e {
		t.Errorf("Read(%d) = %x, %d and not %x, %d", at, b[:4], f, want[:4], e)
	}
}

// made fails unless a call answered so.
func made(t *testing.T, name string, e, want api.Errno) {
	t.Helper()
	if e != want {
		t.Errorf("%s = %d and not %d", name, e, want)
	}
}

// isLoose fails unless so many writes are loose, and the power is so.
func isLoose(t *testing.T, d *disk.Disk, loose int, power bool) {
	t.Helper()
	if d.Loose() != loose || d.Power() != power {
		t.Errorf("Loose() = %d, Power() = %t and not %d, %t", d.Loose(), d.Power(), loose, power)
	}
}

// written: a disk on which each of the sectors has its number's pattern, and nothing is loose.
func written(t *testing.T, sectors ...int) *disk.Disk {
	t.Helper()
	d := disk.New()
	for _, at := range sectors {
		made(t, "Write", d.Write(at, pattern(byte(at))), api.OK)
	}
	made(t, "Sync", d.Sync(), api.OK)
	return d
}

// again: the power of d goes and comes, by picks.
func again(t *testing.T, d *disk.Disk, picks ...uint8) {
	t.Helper()
	d.Off()
	made(t, "On", d.On(picks...), api.OK)
	isLoose(t, d, 0, true)
}

// strangers: numbers of no sector, among them some that are one if they are cut to fewer bits.
func strangers() []int {
	return []int{-1, -2, -disk.Most, disk.Most, disk.Most + 1, 2 * disk.Most, api.MaxDisk, 1 << 16, 1 << 32, 1<<32 + 1, -1 << 32, math.MaxInt32, math.MinInt32, math.MaxInt, math.MinInt, math.MinInt + 1}
}

// P4.1: how many sectors there are, and of how many bytes.
func TestSize(t *testing.T) {
	if disk.Sector != 128 || disk.Most != 32768 || disk.Sector*disk.Most != api.MaxDisk {
		t.Error("P4.1: ", disk.Sector, disk.Most)
	}
}

// P4.1: a new disk has its power on, and all noughts.
func TestNew(t *testing.T) {
	d := disk.New()
	isLoose(t, d, 0, true)
	for at := range disk.Most {
		reads(t, d, at, bytes{}, api.OK)
	}
	made(t, "On", d.On(), api.ErrState)
	made(t, "Sync", d.Sync(), api.OK)
	again(t, d, 1, 2, 3)
	for _, at := range []int{0, 1, disk.Most - 1} {
		reads(t, d, at, bytes{}, api.OK)
	}
}

// P4.1: what is written is read, loose or not, and nothing else is another.
func TestWrite(t *testing.T) {
	for _, at := range []int{0, 1, 2, 255, 256, disk.Most / 2, disk.Most - 2, disk.Most - 1} {
		d := disk.New()
		for _, b := range []bytes{pattern(3), pattern(4), {}, pattern(3)} {
			made(t, "Write", d.Write(at, b), api.OK)
			reads(t, d, at, b, api.OK)
			reads(t, d, at, b, api.OK)
		}
		isLoose(t, d, 4, true)
		made(t, "Sync", d.Sync(), api.OK)
		isLoose(t, d, 0, true)
		reads(t, d, at, pattern(3), api.OK)
		made(t, "Write", d.Write(at, pattern(5)), api.OK)
		reads(t, d, at, pattern(5), api.OK)
		for other := range disk.Most {
			if other != at {
				reads(t, d, other, bytes{}, api.OK)
			}
		}
	}
}

// P4.1, P4.3: all sectors at once, each with its own bytes; what was synced is there when the power comes again.
func TestAllSectors(t *testing.T) {
	d := disk.New()
	own := func(at int) bytes {
		b := pattern(byte(at))
		b[5], b[disk.Sector-1] = byte(at>>8), byte(at>>4)
		return b
	}
	for at := range disk.Most {
		made(t, "Write", d.Write(at, own(at)), api.OK)
	}
	isLoose(t, d, disk.Most, true)
	made(t, "Sync", d.Sync(), api.OK)
	for range 2 {
		for at := range disk.Most {
			reads(t, d, at, own(at), api.OK)
		}
		again(t, d, 2, 2, 2)
	}
}

// P4.1: of no sector nothing is read and nothing written.
func TestNoSuchSector(t *testing.T) {
	d := written(t, 0, disk.Most-1)
	for _, at := range strangers() {
		reads(t, d, at, bytes{}, api.ErrArg)
		made(t, "Write", d.Write(at, pattern(9)), api.ErrArg)
		reads(t, d, at, bytes{}, api.ErrArg)
		isLoose(t, d, 0, true)
	}
	again(t, d, 1, 1, 1)
	for at := range disk.Most {
		want := bytes{}
		if at == 0 || at == disk.Most-1 {
			want = pattern(byte(at))
		}
		reads(t, d, at, want, api.OK)
	}
}

// P4.1: while the power is off nothing is read, written or synced; that goes ahead of all other errors.
func TestPowerOff(t *testing.T) {
	d := written(t, 0, 1, 2)
	d.Write(1, pattern(8))
	again(t, d, 2)
	d.Write(2, pattern(9))
	d.Off()
	for _, at := range append(strangers(), 0, 1, 2, 3, disk.Most-1) {
		reads(t, d, at, bytes{}, api.ErrPower)
		made(t, "Write", d.Write(at, pattern(7)), api.ErrPower)
		made(t, "Sync", d.Sync(), api.ErrPower)
		isLoose(t, d, 1, false)
	}
	made(t, "On", d.On(), api.OK)
	reads(t, d, 0, pattern(0), api.OK)
	reads(t, d, 1, bytes{}, api.ErrLost)
	reads(t, d, 2, pattern(2), api.OK)
	reads(t, d, 3, bytes{}, api.OK)
}

// P4.1: a lost sector is lost, whoever reads, syncs, or takes the power; written again it is not.
func TestLost(t *testing.T) {
	d := written(t, 2, 3, 4)
	d.Write(3, pattern(9))
	again(t, d, 2)
	for range 3 {
		reads(t, d, 2, pattern(2), api.OK)
		reads(t, d, 3, bytes{}, api.ErrLost)
		reads(t, d, 3, bytes{}, api.ErrLost)
		reads(t, d, 4, pattern(4), api.OK)
		made(t, "Sync", d.Sync(), api.OK)
		reads(t, d, 3, bytes{}, api.ErrLost)
		again(t, d, 1, 1)
	}
	made(t, "Write", d.Write(3, pattern(5)), api.OK)
	reads(t, d, 3, pattern(5), api.OK)
	made(t, "Sync", d.Sync(), api.OK)
	reads(t, d, 3, pattern(5), api.OK)
	again(t, d, 2)
	reads(t, d, 3, pattern(5), api.OK)
}

// P4.1, P4.3: a lost sector that was written again is lost again, noughts too, if that write was loose and is picked not to be.
func TestLostAgain(t *testing.T) {
	for _, b := range []bytes{pattern(5), {}} {
		for _, x := range []struct {
			pick uint8
			e    api.Errno
		}{{0, api.ErrLost}, {1, api.OK}, {2, api.ErrLost}, {3, api.OK}} {
			d := written(t, 3)
			d.Write(3, pattern(9))
			again(t, d, 2)
			made(t, "Write", d.Write(3, b), api.OK)
			reads(t, d, 3, b, api.OK)
			again(t, d, x.pick)
			want := b
			if x.e != api.OK {
				want = bytes{}
			}
			reads(t, d, 3, want, x.e)
		}
	}
}

// P4.3: each write is loose, two for one sector too; a Sync ends it, and no call that has an error counts.
func TestLoose(t *testing.T) {
	d := disk.New()
	for n := range 10 {
		isLoose(t, d, n, true)
		d.Write(n/2, pattern(byte(n)))
		d.Write(-1, pattern(1))
		d.Write(disk.Most, pattern(1))
		d.Read(n)
		d.Read(-1)
		d.On(1, 1)
	}
	isLoose(t, d, 10, true)
	d.Off()
	d.Off()
	isLoose(t, d, 10, false)
	d.Write(0, pattern(1))
	d.Sync()
	isLoose(t, d, 10, false)
	made(t, "On", d.On(), api.OK)
	isLoose(t, d, 0, true)
	d.Write(0, pattern(1))
	isLoose(t, d, 1, true)
	d.Sync()
	isLoose(t, d, 0, true)
}

// P4.2: so many calls are made as ever, and the next one ends the fuse: a write is made and is loose, a Sync is not made.
func TestFuse(t *testing.T) {
	for n := range 7 {
		for _, bySync := range []bool{false, true} {
			d := written(t, 1)
			d.Fuse(n)
			for i := range n {
				if i%3 == 2 {
					made(t, "P4.2: Sync", d.Sync(), api.OK)
				} else {
					made(t, "P4.2: Write", d.Write(1, pattern(byte(10+i))), api.OK)
				}
			}
			loose := n % 3
			isLoose(t, d, loose, true)
			if bySync {
				made(t, "P4.2: Sync", d.Sync(), api.ErrPower)
			} else {
				made(t, "P4.2: Write", d.Write(1, pattern(77)), api.ErrPower)
				loose++
			}
			isLoose(t, d, loose, false)
			made(t, "P4.2: Write", d.Write(1, pattern(78)), api.ErrPower)
			made(t, "P4.2: Sync", d.Sync(), api.ErrPower)
			isLoose(t, d, loose, false)
		}
	}
}

// P4.2: the write that the fuse ends at is picked as each other one, for a sector at either end too.
func TestFuseAtWrite(t *testing.T) {
	for _, at := range []int{0, 7, disk.Most - 1} {
		for _, x := range []struct {
			picks []uint8
			want  bytes
			e     api.Errno
		}{
			{nil, pattern(byte(at)), api.OK}, {[]uint8{0, 0}, pattern(byte(at)), api.OK}, {[]uint8{0, 1}, pattern(51), api.OK}, {[]uint8{0, 2}, bytes{}, api.ErrLost},
			{[]uint8{1}, pattern(50), api.OK}, {[]uint8{2, 3}, pattern(51), api.OK}, {[]uint8{2}, bytes{}, api.ErrLost},
		} {
			d := written(t, at)
			d.Fuse(1)
			made(t, "P4.2: Write", d.Write(at, pattern(50)), api.OK)
			made(t, "P4.2: Write", d.Write(at, pattern(51)), api.ErrPower)
			reads(t, d, at, bytes{}, api.ErrPower)
			made(t, "P4.2: On", d.On(x.picks...), api.OK)
			reads(t, d, at, x.want, x.e)
		}
	}
}

// P4.2: the Sync that the fuse ends at is not made: what was loose is picked.
func TestFuseAtSync(t *testing.T) {
	for _, x := range []struct {
		picks []uint8
		want  bytes
		e     api.Errno
	}{{nil, pattern(4), api.OK}, {[]uint8{1}, pattern(50), api.OK}, {[]uint8{2}, bytes{}, api.ErrLost}} {
		d := written(t, 4)
		d.Fuse(1)
		made(t, "P4.2: Write", d.Write(4, pattern(50)), api.OK)
		made(t, "P4.2: Sync", d.Sync(), api.ErrPower)
		isLoose(t, d, 1, false)
		made(t, "P4.2: On", d.On(x.picks...), api.OK)
		reads(t, d, 4, x.want, x.e)
	}
	d := disk.New()
	d.Fuse(0)
	made(t, "P4.2: Sync of nothing", d.Sync(), api.ErrPower)
	isLoose(t, d, 0, false)
}

// lasts fails unless d, with whatever fuse it has, makes so many calls, and the next one ends it.
func lasts(t *testing.T, d *disk.Disk, n int) {
	t.Helper()
	for range n {
		made(t, "P4.2: Sync", d.Sync(), api.OK)
	}
	made(t, "P4.2: Sync behind the fuse", d.Sync(), api.ErrPower)
	isLoose(t, d, 0, false)
}

// endless fails if d has a fuse, of not very many calls.
func endless(t *testing.T, d *disk.Disk) {
	t.Helper()
	for i := range 100 {
		made(t, "P4.2: Write with no fuse", d.Write(i%5, pattern(1)), api.OK)
		made(t, "P4.2: Sync with no fuse", d.Sync(), api.OK)
	}
	isLoose(t, d, 0, true)
}

// P4.2: a number below 0 is no fuse, and takes away the one that is there; no call but Fuse lays one.
func TestNoFuse(t *testing.T) {
	endless(t, disk.New())
	for _, n := range []int{-1, -2, math.MinInt32, math.MinInt} {
		d := disk.New()
		d.Fuse(n)
		endless(t, d)
		for _, old := range []int{0, 1, 5, math.MaxInt} {
			d.Fuse(old)
			d.Fuse(n)
			endless(t, d)
		}
	}
	for _, n := range []int{1000, math.MaxInt32, math.MaxInt} {
		d := disk.New()
		d.Fuse(n)
		endless(t, d)
	}
}

// P4.2: a new fuse is in place of the old one, wherever that was.
func TestNewFuse(t *testing.T) {
	for old := range 5 {
		for burnt := range old + 1 {
			for n := range 5 {
				d := disk.New()
				d.Fuse(old)
				for range burnt {
					made(t, "P4.2: Sync", d.Sync(), api.OK)
				}
				d.Fuse(n)
				lasts(t, d, n)
			}
		}
	}
}

// P4.2: what has an error, and what is neither Write nor Sync, burns no fuse; nor does the power go of it.
func TestErrorsBurnNoFuse(t *testing.T) {
	for n := range 4 {
		d := written(t, 1, 2)
		d.Write(2, pattern(9))
		again(t, d, 2)
		d.Fuse(n)
		for range 3 {
			for _, at := range strangers() {
				made(t, "P4.2: Write", d.Write(at, pattern(1)), api.ErrArg)
				reads(t, d, at, bytes{}, api.ErrArg)
			}
			reads(t, d, 1, pattern(1), api.OK)
			reads(t, d, 2, bytes{}, api.ErrLost)
			made(t, "P4.2: On", d.On(1, 2, 3), api.ErrState)
			isLoose(t, d, 0, true)
		}
		lasts(t, d, n)
	}
}

// P4.2, P4.3: Off and On end a fuse, one that was laid while the power was off too.
func TestFuseEnds(t *testing.T) {
	for n := range 4 {
		d := disk.New()
		d.Fuse(n)
		again(t, d)
		endless(t, d)
		d.Fuse(n)
		lasts(t, d, n)
		made(t, "On", d.On(), api.OK)
		endless(t, d)
		d.Off()
		d.Fuse(n)
		isLoose(t, d, 0, false)
		made(t, "Write", d.Write(0, pattern(1)), api.ErrPower)
		made(t, "Sync", d.Sync(), api.ErrPower)
		made(t, "On", d.On(), api.OK)
		endless(t, d)
	}
}

// P4.2: Off takes the power, again and again, and leaves what is loose loose.
func TestOff(t *testing.T) {
	d := written(t, 1)
	d.Write(1, pattern(2))
	for range 3 {
		d.Off()
		isLoose(t, d, 1, false)
	}
	made(t, "On", d.On(1), api.OK)
	reads(t, d, 1, pattern(2), api.OK)
}

// P4.3: every pick there is, modulo 4.
func TestPicks(t *testing.T) {
	for pick := range 256 {
		d := written(t, 6)
		d.Write(6, pattern(60))
		again(t, d, uint8(pick))
		switch pick % 4 {
		case 0:
			reads(t, d, 6, pattern(6), api.OK)
		case 2:
			reads(t, d, 6, bytes{}, api.ErrLost)
		default:
			reads(t, d, 6, pattern(60), api.OK)
		}
	}
}

// P4.3: picks go by the order of the writes, and not by that of the sectors; a pick that is wanting is 0, and one for which there is no write is nothing.
func TestPicksInOrder(t *testing.T) {
	order := []int{5, disk.Most - 1, 0, 3, 1, 4, 2}
	for _, picks := range [][]uint8{
		nil, {}, {1}, {0, 1}, {0, 0, 2}, {4, 5, 6, 7}, {0, 1, 2, 3, 4, 5, 6}, {7, 6, 5, 4, 3, 2, 1}, {0, 1, 2, 3, 4, 5, 6, 7}, {1, 1, 1, 1, 1, 1, 1, 2, 2, 2, 2}, make([]uint8, 1000),
	} {
		d := written(t, order...)
		for i, at := range order {
			d.Write(at, pattern(byte(100+i)))
		}
		again(t, d, picks...)
		for i, at := range order {
			switch {
			case i >= len(picks) || picks[i]%4 == 0:
				reads(t, d, at, pattern(byte(at)), api.OK)
			case picks[i]%4 == 2:
				reads(t, d, at, bytes{}, api.ErrLost)
			default:
				reads(t, d, at, pattern(byte(100+i)), api.OK)
			}
		}
		reads(t, d, 6, bytes{}, api.OK)
	}
}

// P4.3: two loose writes for one sector, the one done behind the other, with all picks of 0 to 7.
func TestTwoForOneSector(t *testing.T) {
	for one := range uint8(8) {
		for two := range uint8(8) {
			d := written(t, 5)
			d.Write(5, pattern(51))
			d.Write(5, pattern(52))
			isLoose(t, d, 2, true)
			again(t, d, one, two)
			want, e := pattern(5), api.OK
			for i, pick := range []uint8{one % 4, two % 4} {
				switch pick {
				case 1, 3:
					want, e = pattern(byte(51+i)), api.OK
				case 2:
					want, e = bytes{}, api.ErrLost
				}
			}
			reads(t, d, 5, want, e)
		}
	}
}

// P4.3: what On makes lasts: it is loose no more, and no later pick undoes it.
func TestOnLasts(t *testing.T) {
	d := written(t, 1, 2, 3)
	for at := 1; at <= 3; at++ {
		d.Write(at, pattern(byte(10+at)))
	}
	again(t, d, 0, 1, 2)
	for range 2 {
		reads(t, d, 1, pattern(1), api.OK)
		reads(t, d, 2, pattern(12), api.OK)
		reads(t, d, 3, bytes{}, api.ErrLost)
		again(t, d, 1, 2, 1)
	}
	d.Write(2, pattern(20))
	again(t, d)
	reads(t, d, 2, pattern(12), api.OK)
}

// P4.3: On while the power is on is refused, and nothing has changed: what is loose is so still, and the fuse burns on.
func TestOnWhileOn(t *testing.T) {
	d := written(t, 1, 2)
	d.Write(1, pattern(11))
	d.Write(2, pattern(12))
	d.Fuse(2)
	for _, picks := range [][]uint8{nil, {0, 0}, {1, 1}, {2, 2}, {3}} {
		made(t, "P4.3: On", d.On(picks...), api.ErrState)
		isLoose(t, d, 2, true)
		reads(t, d, 1, pattern(11), api.OK)
		reads(t, d, 2, pattern(12), api.OK)
	}
	made(t, "Write", d.Write(3, pattern(13)), api.OK)
	made(t, "On", d.On(1), api.ErrState)
	made(t, "Write", d.Write(3, pattern(14)), api.OK)
	made(t, "Sync", d.Sync(), api.ErrPower)
	made(t, "On", d.On(0, 1), api.OK)
	reads(t, d, 1, pattern(1), api.OK)
	reads(t, d, 2, pattern(12), api.OK)
	reads(t, d, 3, bytes{}, api.OK)
}

// P4.3, R4: of no disk.
func TestNoDisk(t *testing.T) {
	var d *disk.Disk
	for range 2 {
		for _, at := range append(strangers(), 0, disk.Most-1) {
			reads(t, d, at, bytes{}, api.ErrNil)
			made(t, "Write", d.Write(at, pattern(1)), api.ErrNil)
		}
		made(t, "Sync", d.Sync(), api.ErrNil)
		made(t, "On", d.On(), api.ErrNil)
		made(t, "On", d.On(1, 2), api.ErrNil)
		d.Fuse(0)
		d.Fuse(-1)
		isLoose(t, d, 0, false)
		d.Off()
	}
}

// R3, R5: picks are neither changed nor kept, the room behind their end neither; what is read is not the disk's own, and each disk stands by itself.
func TestHandedIn(t *testing.T) {
	d, other := written(t, 1, 2), written(t, 1, 2)
	b := pattern(11)
	d.Write(1, b)
	b[0]++
	d.Write(2, pattern(12))
	d.Off()
	all := []uint8{5, 6, 7, 8, 9}
	made(t, "On", d.On(all[:1]...), api.OK)
	if !slices.Equal(all, []uint8{5, 6, 7, 8, 9}) {
		t.Error("R3: picks are ", all)
	}
	reads(t, d, 1, pattern(11), api.OK)
	reads(t, d, 2, pattern(2), api.OK)
	got, _ := d.Read(1)
	clear(got[:])
	reads(t, d, 1, pattern(11), api.OK)
	reads(t, other, 1, pattern(1), api.OK)
	isLoose(t, other, 0, true)
	d.Off()
	clear(all)
	made(t, "On", d.On(all...), api.OK)
	reads(t, d, 1, pattern(11), api.OK)
}

// became: what may have become of a sector.
type became struct {
	bytes bytes
	lost  bool
}

// P4.4: three loose writes to any of three sectors, with all picks: each sector is what it was, or what one of the writes for it wrote, or lost; and all of that is met.
func TestWhateverIsPicked(t *testing.T) {
	for targets := range 27 {
		met := map[int]map[became]bool{0: {}, 1: {}, 2: {}}
		allowed := map[int]map[became]bool{}
		for at := range 3 {
			allowed[at] = map[became]bool{{bytes: pattern(byte(at))}: true}
		}
		for picks := range 64 {
			d := written(t, 0, 1, 2)
			for i, rest := 0, targets; i < 3; i, rest = i+1, rest/3 {
				at, b := rest%3, pattern(byte(200+i))
				d.Write(at, b)
				allowed[at][became{bytes: b}] = true
				allowed[at][became{lost: true}] = true
			}
			again(t, d, uint8(picks), uint8(picks>>2), uint8(picks>>4))
			for at := range 3 {
				b, e := d.Read(at)
				met[at][became{b, e == api.ErrLost}] = true
			}
		}
		for at := range 3 {
			for x := range met[at] {
				if !allowed[at][x] {
					t.Errorf("P4.4: sector %d became %x, lost: %t", at, x.bytes[:4], x.lost)
				}
			}
			if len(met[at]) != len(allowed[at]) {
				t.Errorf("P4.4: sector %d became %d things of %d", at, len(met[at]), len(allowed[at]))
			}
		}
	}
}
