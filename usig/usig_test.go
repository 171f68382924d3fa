package usig_test

import (
	"bytes"
	"encoding/hex"
	"math"
	"strings"
	"testing"

	"ratchet/api"
	"ratchet/cell"
	"ratchet/disk"
	"ratchet/usig"
)

// made fails unless a call answered so.
func made(t *testing.T, name string, e, want api.Errno) {
	t.Helper()
	if e != want {
		t.Fatalf("%s = %d and not %d", name, e, want)
	}
}

// formatted: a disk with a new counter.
func formatted(t *testing.T, at int) *disk.Disk {
	t.Helper()
	d := disk.New()
	made(t, "Format", usig.Format(d, at), api.OK)
	return d
}

// holding: a disk with a counter's cell that has these bytes.
func holding(t *testing.T, at int, has string) *disk.Disk {
	t.Helper()
	d := formatted(t, at)
	c, e := cell.Open(d, at)
	made(t, "cell.Open", e, api.OK)
	made(t, "cell.Put", c.Put([]byte(has)), api.OK)
	return d
}

// has fails unless the cell there has these bytes.
func has(t *testing.T, d *disk.Disk, at int, want string) {
	t.Helper()
	c, e := cell.Open(d, at)
	if e != api.OK || string(c.Get()) != want {
		t.Fatalf("the cell has %d, %.40q and not %.40q", e, c.Get(), want)
	}
}

// counts fails unless there is a counter of i.
func counts(t *testing.T, i int, d *disk.Disk, at int) *usig.Usig {
	t.Helper()
	u, e := usig.New(i, d, at)
	if u == nil || e != api.OK {
		t.Fatalf("New(%d, %d) = %d", i, at, e)
	}
	return u
}

// refused fails unless New answers the error, and no counter.
func refused(t *testing.T, i int, d *disk.Disk, at int, want api.Errno) {
	t.Helper()
	if u, e := usig.New(i, d, at); u != nil || e != want {
		t.Fatalf("New(%d, %d) = %v, %d and not %d", i, at, u, e, want)
	}
}

// last fails unless the counter of i tells that number and these bytes, with their tag.
func last(t *testing.T, u *usig.Usig, i int, want uint64, text string) {
	t.Helper()
	n, b, k := u.Last()
	tag := [32]byte{}
	if want > 0 {
		tag = tagged(i, want, text)
	}
	if n != want || string(b) != text || k != tag {
		t.Fatalf("Last = %d, %.40q, %x and not %d, %.40q, %x", n, b, k, want, text, tag)
	}
}

// next fails unless the counter of i gives that number for the text, with their tag.
func next(t *testing.T, u *usig.Usig, i int, want uint64, text string) {
	t.Helper()
	n, k, e := u.Next([]byte(text))
	if n != want || k != tagged(i, want, text) || e != api.OK {
		t.Fatalf("Next(%.40q) = %d, %x, %d and not %d", text, n, k, e, want)
	}
	last(t, u, i, want, text)
}

// fails fails unless the counter gives nothing for the bytes, and that error.
func fails(t *testing.T, u *usig.Usig, b []byte, want api.Errno) {
	t.Helper()
	if n, k, e := u.Next(b); n != 0 || k != [32]byte{} || e != want {
		t.Fatalf("Next of %d bytes = %d, %x, %d and not %d", len(b), n, k, e, want)
	}
}

// lose makes that a sector cannot be read.
func lose(t *testing.T, d *disk.Disk, at int) {
	t.Helper()
	made(t, "Sync", d.Sync(), api.OK)
	made(t, "Write", d.Write(at, [disk.Sector]byte{}), api.OK)
	d.Off()
	made(t, "On", d.On(2), api.OK)
}

// noReplicas: numbers of none, among them some that are one if they are cut to fewer bits.
func noReplicas() []int {
	return []int{-1, 0, api.MaxReplicas + 1, -2, -11, 13, 255, 256, 257, 1 << 16, 1<<16 + 1, 1 << 32, 1<<32 + 1, -1<<32 + 1, math.MaxInt, math.MinInt, math.MinInt + 1}
}

// noPlaces: numbers of sectors at which no cell can stand.
func noPlaces() []int {
	return []int{-1, disk.Most - cell.Size + 1, -2, -cell.Size, disk.Most - 1, disk.Most, 1 << 32, -1 << 32, math.MaxInt, math.MinInt}
}

// P7.1: a counter that is new, at all places, with nothing behind its cell or ahead of it written; and of all replicas.
func TestFormat(t *testing.T) {
	for i, at := range []int{0, 1, 40, disk.Most - cell.Size - 1, disk.Most - cell.Size} {
		d := disk.New()
		made(t, "Format", usig.Format(d, at), api.OK)
		if d.Loose() != 0 {
			t.Errorf("P7.1: %d are loose", d.Loose())
		}
		has(t, d, at, "")
		u := counts(t, 11-i, d, at)
		last(t, u, 11-i, 0, "")
		next(t, u, 11-i, 1, "ab")
		for _, other := range []int{at - 1, at + cell.Size} {
			if s, e := d.Read(other); e == api.OK && s != [disk.Sector]byte{} {
				t.Errorf("P7.1: sector %d is written, too", other)
			}
		}
	}
}

// P7.1: whatever stood there, the counter is new behind a Format.
func TestFormatAgain(t *testing.T) {
	for _, was := range []string{"", "ab", sealed(0, ""), sealed(7, "ab"), sealed(api.MaxNumber, "ab"), strings.Repeat("x", cell.Bytes)} {
		d := holding(t, 3, was)
		lose(t, d, 5)
		made(t, "Format", usig.Format(d, 3), api.OK)
		u := counts(t, 4, d, 3)
		last(t, u, 4, 0, "")
		next(t, u, 4, 1, "cd")
	}
}

// P7.1: the disk's error, at each call of a Format, and that of one that is off.
func TestFormatPower(t *testing.T) {
	for n := range 22 {
		d := disk.New()
		d.Fuse(n)
		want := api.ErrPower
		if n == 21 {
			want = api.OK
		}
		made(t, "Format", usig.Format(d, 0), want)
		d.Off()
		made(t, "Format", usig.Format(d, 0), api.ErrPower)
		made(t, "Format", usig.Format(d, -1), api.ErrArg)
	}
}

// P7.1: no disk is told ahead of all others.
func TestNoDisk(t *testing.T) {
	for _, at := range append(noPlaces(), 0, 1, disk.Most-cell.Size) {
		made(t, "Format", usig.Format(nil, at), api.ErrNil)
		for _, i := range append(noReplicas(), 1, 2, api.MaxReplicas) {
			refused(t, i, nil, at, api.ErrNil)
		}
	}
}

// P7.1: who is no replica has no counter; that is told ahead of the power's error and of a cell that cannot be read.
func TestNoReplica(t *testing.T) {
	for _, i := range noReplicas() {
		refused(t, i, formatted(t, 0), 0, api.ErrArg)
		refused(t, i, holding(t, 0, "ab"), 0, api.ErrArg)
		refused(t, i, disk.New(), 0, api.ErrArg)
		refused(t, i, disk.New(), -1, api.ErrArg)
		off := formatted(t, 0)
		off.Off()
		refused(t, i, off, 0, api.ErrArg)
	}
	for i := 1; i <= api.MaxReplicas; i++ {
		next(t, counts(t, i, formatted(t, 0), 0), i, 1, "ab")
	}
}

// P7.1: where no cell can stand no counter is; that is told ahead of the power's error.
func TestNoPlace(t *testing.T) {
	for _, at := range noPlaces() {
		d := disk.New()
		made(t, "Format", usig.Format(d, at), api.ErrArg)
		refused(t, 1, d, at, api.ErrArg)
		if d.Loose() != 0 {
			t.Errorf("P7.1: something was written at %d", at)
		}
		d.Off()
		made(t, "Format", usig.Format(d, at), api.ErrArg)
		refused(t, 1, d, at, api.ErrArg)
	}
}

// P7.1: cell.Open's other errors: of a disk that is off, and of no cell; a counter one sector beside is none.
func TestOpenRefuses(t *testing.T) {
	refused(t, 1, disk.New(), 0, api.ErrLost)
	d := formatted(t, 30)
	for _, at := range []int{0, 19, 29, 31, 41, 50} {
		refused(t, 1, d, at, api.ErrLost)
	}
	d.Off()
	refused(t, 1, d, 30, api.ErrPower)
	refused(t, 1, d, 0, api.ErrPower)
	made(t, "On", d.On(), api.OK)
	last(t, counts(t, 1, d, 30), 1, 0, "")
	bad := holding(t, 0, "ab")
	bad.Off()
	refused(t, 1, bad, 0, api.ErrPower) // ahead of ErrLost
}

// P7.1: New writes nothing.
func TestNewWritesNothing(t *testing.T) {
	d := holding(t, 0, sealed(5, "ab"))
	d.Fuse(0)
	last(t, counts(t, 1, d, 0), 1, 5, "ab")
	refused(t, 0, d, 0, api.ErrArg)
	if !d.Power() || d.Loose() != 0 {
		t.Error("P7.1: something was written")
	}
}

// P7.1: what the cell has, if a counter can have sealed it: nothing, or a number and bytes.
func TestSealedRight(t *testing.T) {
	last(t, counts(t, 1, holding(t, 0, ""), 0), 1, 0, "")
	for _, n := range []uint64{1, 2, 255, 256, 257, api.MaxNumber - 1, api.MaxNumber} {
		for _, size := range []int{0, 1, 2, 8, 109, 110, 111, 112, 113, 1023, 1024} {
			for _, text := range []string{strings.Repeat("\x00", size), text(size)} {
				u := counts(t, 7, holding(t, 0, sealed(n, text)), 0)
				last(t, u, 7, n, text)
				if n < api.MaxNumber {
					next(t, u, 7, n+1, "cd")
				}
			}
		}
	}
}

// P7.1: what the cell has, if no counter can have sealed it: fewer bytes than a word, a number that may not be, too many bytes.
func TestSealedWrong(t *testing.T) {
	bad := []string{strings.Repeat("\x00", 1100), text(1100)}
	for size := 1; size < 8; size++ {
		bad = append(bad, strings.Repeat("\x00", size), strings.Repeat("\x00", size-1)+"\x01", text(size))
	}
	for _, n := range []uint64{0, api.MaxNumber + 1, api.MaxNumber + 2, 1 << 17, 1 << 32, 1<<32 + 1, 1 << 63, 1<<63 + 1, math.MaxUint64, math.MaxUint64 - 1} {
		bad = append(bad, sealed(n, ""), sealed(n, "ab"), sealed(n, text(1024)), sealed(n, text(1025)))
	}
	for _, n := range []uint64{1, 5, api.MaxNumber} {
		for _, size := range []int{1025, 1026, 1091, 1092} {
			bad = append(bad, sealed(n, text(size)), sealed(n, strings.Repeat("\x00", size)))
		}
	}
	for _, b := range bad {
		refused(t, 1, holding(t, 0, b), 0, api.ErrLost)
		refused(t, 12, holding(t, 0, b), 0, api.ErrArg)
	}
}

// P7.1: a spoilt slot of the cell: the other one is told; ErrLost, if both are.
func TestSpoiltSlots(t *testing.T) {
	for i := range cell.Size {
		d := holding(t, 0, sealed(6, "ab")) // it stands in the second slot now
		next(t, counts(t, 3, d, 0), 3, 7, "cd")
		lose(t, d, i)
		n, b := uint64(6), "ab"
		if i >= 10 {
			n, b = 7, "cd"
		}
		u := counts(t, 3, d, 0)
		last(t, u, 3, n, b)
		lose(t, d, (i+cell.Size/2)%cell.Size)
		refused(t, 3, d, 0, api.ErrLost)
		refused(t, 0, d, 0, api.ErrArg)
		next(t, u, 3, n+1, "ef") // it needs no slot that is whole, only those it writes
		last(t, counts(t, 3, d, 0), 3, n+1, "ef")
	}
}

// P7.2: the numbers are 1, 2, .., each for its bytes; opened again the last one is told, and they go on behind it.
func TestNumbers(t *testing.T) {
	d := formatted(t, 9)
	u := counts(t, 5, d, 9)
	for n := uint64(1); n <= 300; n++ {
		b := text(int(n * 37 % 1025))
		next(t, u, 5, n, b)
		if d.Loose() != 0 {
			t.Fatalf("P7.2: %d are loose", d.Loose())
		}
		has(t, d, 9, sealed(n, b))
		v := counts(t, 5, d, 9)
		last(t, v, 5, n, b)
		if n%3 == 0 {
			u = v
		}
	}
}

// P7.2: bytes of all numbers that may be, and the same bytes again: each time the next number.
func TestSizes(t *testing.T) {
	d := formatted(t, 0)
	u := counts(t, 1, d, 0)
	n := uint64(0)
	for _, size := range []int{0, 0, 1, 1, 2, 109, 110, 111, 229, 230, 231, 1023, 1024, 1024, 0} {
		for _, b := range []string{strings.Repeat("\x00", size), strings.Repeat("\xff", size), text(size)} {
			n++
			next(t, u, 1, n, b)
			last(t, counts(t, 1, d, 0), 1, n, b)
		}
	}
	if m, _, e := u.Next(nil); m != n+1 || e != api.OK {
		t.Errorf("P7.2: Next(nil) = %d, %d", m, e)
	}
	last(t, u, 1, n+1, "")
	if m, _, e := u.Next([]byte{}); m != n+2 || e != api.OK {
		t.Errorf("P7.2: Next of an empty list = %d, %d", m, e)
	}
	last(t, counts(t, 1, d, 0), 1, n+2, "")
}

// P7.2: more bytes than may be have no number; nothing is written, and nothing has changed.
func TestTooMany(t *testing.T) {
	d := formatted(t, 0)
	u := counts(t, 2, d, 0)
	next(t, u, 2, 1, "ab")
	for _, size := range []int{1025, 1026, 1091, 1092, 1093, 1100, 1101, 1 << 16, 1<<16 + 1, 1 << 20} {
		d.Fuse(0)
		fails(t, u, make([]byte, size), api.ErrMany)
		if !d.Power() || d.Loose() != 0 {
			t.Errorf("P7.2: %d bytes: something was written", size)
		}
		d.Fuse(-1)
		last(t, u, 2, 1, "ab")
		last(t, counts(t, 2, d, 0), 2, 1, "ab")
	}
	next(t, u, 2, 2, text(1024))
}

// P7.2: behind the last number there is none; nothing is written, and it stays the last one.
func TestEnd(t *testing.T) {
	d := holding(t, 0, sealed(api.MaxNumber-2, "ab"))
	u := counts(t, 2, d, 0)
	next(t, u, 2, api.MaxNumber-1, "cd")
	next(t, u, 2, api.MaxNumber, "ef")
	for range 3 {
		d.Fuse(0)
		fails(t, u, nil, api.ErrEnd)
		fails(t, u, []byte("ef"), api.ErrEnd)
		fails(t, u, make([]byte, 1024), api.ErrEnd)
		if !d.Power() || d.Loose() != 0 {
			t.Error("P7.2: something was written")
		}
		d.Fuse(-1)
		last(t, u, 2, api.MaxNumber, "ef")
		u = counts(t, 2, d, 0)
		last(t, u, 2, api.MaxNumber, "ef")
	}
}

// P7.2: which error is told, if there are several: ErrMany, ErrEnd, ErrPower, in this order.
func TestFirstError(t *testing.T) {
	many := make([]byte, 1025)
	d := holding(t, 0, sealed(api.MaxNumber, ""))
	u := counts(t, 1, d, 0)
	fails(t, u, many, api.ErrMany)
	d.Off()
	fails(t, u, many, api.ErrMany)
	fails(t, u, nil, api.ErrEnd)
	d = holding(t, 0, sealed(9, "ab"))
	u = counts(t, 1, d, 0)
	d.Off()
	for range 2 { // behind a Put that had an error, too
		fails(t, u, many, api.ErrMany)
		fails(t, u, nil, api.ErrPower)
	}
	var none *usig.Usig
	fails(t, none, many, api.ErrNil)
}

// P7.2, R4: of no counter.
func TestNoCounter(t *testing.T) {
	var u *usig.Usig
	for _, b := range [][]byte{nil, {}, []byte("ab"), make([]byte, 1024), make([]byte, 1025), make([]byte, 1101)} {
		fails(t, u, b, api.ErrNil)
	}
	if n, b, k := u.Last(); n != 0 || len(b) != 0 || k != [32]byte{} {
		t.Errorf("P7.2: Last of no counter = %d, %q, %x", n, b, k)
	}
}

// P7.2: tags that another program made.
func TestTags(t *testing.T) {
	for _, x := range []struct {
		i    int
		n    uint64
		b    string
		want string
	}{
		{1, 1, "ab", "ca286a490536bbd626fa7bf108b5c53a1bf833f588021b701c5f65d5cff13360"},
		{2, 1, "ab", "1a9973dbb8e90eb7306235aec68760e8f2f1b6ec93d786355e53e73fce6014e2"},
		{1, 2, "ab", "30afc00a93451c31ef9ecdab30d015ca128d64172416ecd277f04425c23a06c6"},
		{1, 1, "", "2d9d258e79c0a957541120f30092b90363d38b736f11208d2bfa031b34bfa26b"},
		{11, 65536, strings.Repeat("x", 1024), "00afd9e051ab4b6166668c2e212d3b477067408e69fe9a3609c1e61b958a68c4"},
	} {
		var was string
		if x.n > 1 {
			was = sealed(x.n-1, "was")
		}
		u := counts(t, x.i, holding(t, 0, was), 0)
		n, k, e := u.Next([]byte(x.b))
		if n != x.n || hex.EncodeToString(k[:]) != x.want || e != api.OK {
			t.Errorf("P7.2: Next of %d = %d, %x, %d", x.i, n, k, e)
		}
		if n, _, k := u.Last(); n != x.n || hex.EncodeToString(k[:]) != x.want {
			t.Errorf("P7.2: Last of %d = %d, %x", x.i, n, k)
		}
		if !usig.Check(x.i, x.n, []byte(x.b), k) {
			t.Errorf("P7.3: %d, %d", x.i, x.n)
		}
	}
}

// P7.2: a Next at which the power went has no number, and none has one behind it, though the power is on again; nothing is written then. Last tells what it told.
func TestNextBehindAnError(t *testing.T) {
	for n := range 12 {
		d := formatted(t, 0)
		u := counts(t, 1, d, 0)
		next(t, u, 1, 1, "ab")
		if n == 11 {
			d.Off()
		} else {
			d.Fuse(n)
		}
		fails(t, u, []byte("cd"), api.ErrPower)
		last(t, u, 1, 1, "ab")
		fails(t, u, []byte("cd"), api.ErrPower)
		made(t, "On", d.On(bytes.Repeat([]byte{1}, 10)...), api.OK)
		d.Fuse(0)
		for range 3 {
			fails(t, u, []byte("ef"), api.ErrPower)
			last(t, u, 1, 1, "ab")
		}
		if !d.Power() || d.Loose() != 0 {
			t.Errorf("P7.2: something was written behind %d", n)
		}
		d.Fuse(-1)
		was, b := uint64(1), "ab"
		if n == 9 || n == 10 {
			was, b = 2, "cd"
		}
		u = counts(t, 1, d, 0)
		last(t, u, 1, was, b)
		next(t, u, 1, was+1, "ef")
	}
}

// P7.2: the power may have been off in between, if no Next was called then; Last reads nothing.
func TestPowerInBetween(t *testing.T) {
	d := formatted(t, 0)
	u := counts(t, 1, d, 0)
	next(t, u, 1, 1, "ab")
	d.Off()
	last(t, u, 1, 1, "ab")
	fails(t, u, make([]byte, 1025), api.ErrMany)
	made(t, "On", d.On(), api.OK)
	next(t, u, 1, 2, "cd")
	lose(t, d, 0)
	lose(t, d, 10)
	last(t, u, 1, 2, "cd")
}

// P7.3: a tag that is that of a replica, a number and bytes, of any that may be.
func TestCheckRight(t *testing.T) {
	for i := 1; i <= api.MaxReplicas; i++ {
		for _, n := range []uint64{1, 2, 255, 256, 65535, 65536} {
			for _, size := range []int{0, 1, 55, 56, 64, 1023, 1024} {
				if !usig.Check(i, n, []byte(text(size)), tagged(i, n, text(size))) {
					t.Errorf("P7.3: %d, %d, %d bytes", i, n, size)
				}
			}
		}
	}
	if !usig.Check(1, 1, nil, tagged(1, 1, "")) || !usig.Check(1, 1, []byte{}, tagged(1, 1, "")) {
		t.Error("P7.3: of no bytes")
	}
}

// P7.3: with any bit of the tag turned, of another replica, another number, or other bytes it is none.
func TestCheckOther(t *testing.T) {
	k := tagged(4, 9, "ab")
	for bit := range 256 {
		other := k
		other[bit/8] ^= 1 << (bit % 8)
		if usig.Check(4, 9, []byte("ab"), other) {
			t.Errorf("P7.3: bit %d is turned", bit)
		}
	}
	for i := -2; i < 14; i++ {
		for n := range uint64(12) {
			for _, b := range []string{"ab", "", "a", "abc", "ab\x00", "\x00ab", "Ab", "ba"} {
				if want := i == 4 && n == 9 && b == "ab"; usig.Check(i, n, []byte(b), k) != want {
					t.Errorf("P7.3: %d, %d, %q", i, n, b)
				}
			}
		}
	}
	for _, n := range []uint64{9 + 1<<16, 9 + 1<<32, 9 + 1<<56, 9 << 8, 9 << 56} {
		if usig.Check(4, n, []byte("ab"), k) {
			t.Errorf("P7.3: %d", n)
		}
	}
	if usig.Check(4, 9, []byte("ab"), [32]byte{}) {
		t.Error("P7.3: a zero tag")
	}
}

// P7.3: of no replica, no number and too many bytes none is right, though the tag is that of tag.Numbered.
func TestCheckWrong(t *testing.T) {
	for _, i := range noReplicas() {
		if usig.Check(i, 1, []byte("ab"), tagged(i, 1, "ab")) {
			t.Errorf("P7.3: replica %d", i)
		}
	}
	for _, n := range []uint64{0, api.MaxNumber + 1, api.MaxNumber + 2, 1 << 32, 1<<32 + 1, 1 << 63, 1<<63 + 1, math.MaxUint64} {
		if usig.Check(1, n, []byte("ab"), tagged(1, n, "ab")) {
			t.Errorf("P7.3: number %d", n)
		}
	}
	for _, size := range []int{1025, 1026, 1100, 1 << 16, 1<<16 + 1} {
		if usig.Check(1, 1, make([]byte, size), tagged(1, 1, string(make([]byte, size)))) {
			t.Errorf("P7.3: %d bytes", size)
		}
	}
}

// P7.4: the power goes at each write of a Next and at its Sync, with all kinds of picks: the number is sealed for its bytes, or was not given; then it is given to others.
func TestPower(t *testing.T) {
	for n := range 12 {
		for _, x := range []struct{ was, is string }{{"ab", "cd"}, {"ab", "ab"}, {"", text(1024)}, {text(1024), ""}} {
			for _, picks := range picked() {
				d := formatted(t, 0)
				u := counts(t, 6, d, 0)
				next(t, u, 6, 1, x.was)
				d.Fuse(n)
				if n == 11 {
					next(t, u, 6, 2, x.is)
				} else {
					fails(t, u, []byte(x.is), api.ErrPower)
				}
				d.Off()
				refused(t, 6, d, 0, api.ErrPower)
				made(t, "On", d.On(picks...), api.OK)
				want, b := uint64(1), x.was
				if n == 11 || n >= 9 && done(picks) {
					want, b = 2, x.is
				}
				u = counts(t, 6, d, 0)
				last(t, u, 6, want, b)
				next(t, u, 6, want+1, "ef")
				last(t, counts(t, 6, d, 0), 6, want+1, "ef")
			}
		}
	}
}

// P7.4: the power goes at the first Next of all: there is the number 1, or none.
func TestPowerAtTheFirst(t *testing.T) {
	for n := range 11 {
		for pick := range byte(4) {
			d := formatted(t, 0)
			d.Fuse(n)
			fails(t, counts(t, 1, d, 0), []byte("ab"), api.ErrPower)
			made(t, "On", d.On(bytes.Repeat([]byte{pick}, 10)...), api.OK)
			u := counts(t, 1, d, 0)
			want := uint64(0)
			if n >= 9 && pick%2 == 1 {
				want = 1
				last(t, u, 1, 1, "ab")
			} else {
				last(t, u, 1, 0, "")
			}
			next(t, u, 1, want+1, "cd")
		}
	}
}

// P7.4: the power goes at the last number's Next: sealed it is the last, else it is still to be given.
func TestPowerAtTheEnd(t *testing.T) {
	for pick := range byte(4) {
		d := holding(t, 0, sealed(api.MaxNumber-1, "ab"))
		d.Fuse(10)
		fails(t, counts(t, 1, d, 0), []byte("cd"), api.ErrPower)
		made(t, "On", d.On(bytes.Repeat([]byte{pick}, 10)...), api.OK)
		u := counts(t, 1, d, 0)
		if pick%2 == 1 {
			last(t, u, 1, api.MaxNumber, "cd")
		} else {
			last(t, u, 1, api.MaxNumber-1, "ab")
			next(t, u, 1, api.MaxNumber, "ef")
		}
		fails(t, u, nil, api.ErrEnd)
	}
}

// picked: picks for the ten sectors that a Next writes.
func picked() [][]byte {
	out := [][]byte{nil, {1}, bytes.Repeat([]byte{1}, 9), []byte("\x01\x03\x05\x07\xff\x01\x03\x05\x07\xff")}
	for pick := range byte(4) {
		out = append(out, bytes.Repeat([]byte{pick}, 10))
		for i := range 10 {
			one := bytes.Repeat([]byte{1}, 10)
			one[i] = pick
			out = append(out, one)
		}
	}
	return out
}

// done: are ten writes done by these picks?
func done(picks []byte) bool {
	for _, p := range picks {
		if p%2 != 1 {
			return false
		}
	}
	return len(picks) >= 10
}

// P7.4: nothing but Next seals a number: the cell's calls are no calls of a Usig.
func TestNothingElseSeals(t *testing.T) {
	var u any = counts(t, 1, formatted(t, 0), 0)
	if _, ok := u.(interface{ Put([]byte) api.Errno }); ok {
		t.Error("P7.4: a number can be put in place of another")
	}
}

// P7.1, P7.2: counters side by side on a disk, and on two disks, are each its own; so are those of two replicas.
func TestSideBySide(t *testing.T) {
	d, other := formatted(t, 0), formatted(t, 20)
	made(t, "Format", usig.Format(d, 20), api.OK)
	a, b, c := counts(t, 1, d, 0), counts(t, 2, d, 20), counts(t, 1, other, 20)
	for n := uint64(1); n < 9; n++ {
		next(t, a, 1, n, "a"+text(int(n)))
		if n < 5 {
			next(t, b, 2, n, "b"+text(int(n)))
		}
		if n < 3 {
			next(t, c, 1, n, "c")
		}
	}
	d.Fuse(3)
	fails(t, a, nil, api.ErrPower)
	made(t, "On", d.On(), api.OK)
	next(t, b, 2, 5, "go on") // its own cell had no error
	fails(t, a, nil, api.ErrPower)
	last(t, counts(t, 1, d, 0), 1, 8, "a"+text(8))
	last(t, counts(t, 2, d, 20), 2, 5, "go on")
	last(t, counts(t, 1, other, 20), 1, 2, "c")
}

// P7.1: who the counter is of does not stand in the cell: opened as another one's it tells that one's tag.
func TestAnotherReplica(t *testing.T) {
	d := formatted(t, 0)
	next(t, counts(t, 1, d, 0), 1, 1, "ab")
	u := counts(t, 2, d, 0)
	last(t, u, 2, 1, "ab")
	next(t, u, 2, 2, "cd")
}

// R3: what Last tells is new memory, and what Next was given is neither kept nor changed, the room behind its end neither.
func TestMemory(t *testing.T) {
	d := formatted(t, 0)
	u := counts(t, 1, d, 0)
	room := []byte("ab~~~~~~~~~~~~~~~~")
	given := room[:2]
	if n, k, e := u.Next(given); n != 1 || k != tagged(1, 1, "ab") || e != api.OK {
		t.Fatalf("P7.2: Next = %d, %d", n, e)
	}
	if string(room) != "ab~~~~~~~~~~~~~~~~" {
		t.Errorf("P7.2: %q was handed in", room)
	}
	given[0] = 'X'
	last(t, u, 1, 1, "ab")
	_, one, _ := u.Last()
	_, two, _ := u.Last()
	one[1] = 'Y'
	_ = append(one[:0], "ZZZZZZ"...)
	if string(two) != "ab" || string(room) != "Xb~~~~~~~~~~~~~~~~" {
		t.Errorf("P7.2: %q, %q", two, room)
	}
	last(t, u, 1, 1, "ab")
	u = counts(t, 1, d, 0)
	_, one, _ = u.Last()
	one[0] = 'Y'
	last(t, u, 1, 1, "ab")
	next(t, u, 1, 2, "cd")
	k := tagged(1, 1, "ab")
	if !usig.Check(1, 1, []byte("ab~~")[:2], k) {
		t.Error("P7.3: the room behind the bytes counts")
	}
}

// The chapter's example.
func TestExample(t *testing.T) {
	d := formatted(t, 0)
	u := counts(t, 1, d, 0)
	last(t, u, 1, 0, "")
	next(t, u, 1, 1, "ab")
	u = counts(t, 1, d, 0)
	last(t, u, 1, 1, "ab")
	next(t, u, 1, 2, "cd")
}
