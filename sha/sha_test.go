package sha_test

import (
	"fmt"
	"math/big"
	"math/bits"
	"math/rand"
	"strings"
	"testing"

	"ratchet/sha"
)

// pattern: n bytes that do not repeat with the blocks.
func pattern(n int) []byte {
	b := make([]byte, n)
	for i := range b {
		b[i] = byte(7*i + i/256*3 + 1)
	}
	return b
}

// text: a digest in letters, as it is published.
func text(d [32]byte) string { return fmt.Sprintf("%x", d) }

// roots: of the first n primes the first 32 bits behind the point of their
// roots of that degree (2 or 3), reckoned with whole numbers.
func roots(n, degree int) []uint32 {
	var out []uint32
	for p := int64(2); len(out) < n; p++ {
		if big.NewInt(p).ProbablyPrime(0) {
			out = append(out, behindPoint(p, degree))
		}
	}
	return out
}

// behindPoint: the largest x whose power is no more than p, with 32 bits
// behind the point; of these, only the bits behind it.
func behindPoint(p int64, degree int) uint32 {
	high := new(big.Int).Lsh(big.NewInt(p), uint(32*degree))
	x := new(big.Int)
	for bit := 40; bit >= 0; bit-- {
		y := new(big.Int).SetBit(x, bit, 1)
		if new(big.Int).Exp(y, big.NewInt(int64(degree)), nil).Cmp(high) <= 0 {
			x = y
		}
	}
	return uint32(x.Uint64())
}

// plainBlock: P2.2 word by word, with numbers K of its own.
func plainBlock(k []uint32, v [8]uint32, block [64]byte) [8]uint32 {
	rot := func(x uint32, n int) uint32 { return bits.RotateLeft32(x, 32-n) }
	var w []uint32
	for i := 0; i < 64; i += 4 {
		w = append(w, uint32(block[i])*1<<24+uint32(block[i+1])*1<<16+uint32(block[i+2])*1<<8+uint32(block[i+3]))
	}
	for i := 16; i < 64; i++ {
		s0 := rot(w[i-15], 7) ^ rot(w[i-15], 18) ^ (w[i-15] >> 3)
		s1 := rot(w[i-2], 17) ^ rot(w[i-2], 19) ^ (w[i-2] >> 10)
		w = append(w, w[i-16]+s0+w[i-7]+s1)
	}
	r := v
	for i := range 64 {
		a, b, c, e, f, g := r[0], r[1], r[2], r[4], r[5], r[6]
		t := r[7] + (rot(e, 6) ^ rot(e, 11) ^ rot(e, 25)) + ((e & f) ^ (^e & g)) + k[i] + w[i]
		u := (rot(a, 2) ^ rot(a, 13) ^ rot(a, 22)) + ((a & b) ^ (a & c) ^ (b & c))
		r = [8]uint32{t + u, a, b, c, r[3] + t, e, f, g}
	}
	for i := range r {
		r[i] += v[i]
	}
	return r
}

// P2.1: the roots of the first 8 primes, each time, whatever is done to what
// was told.
func TestStart(t *testing.T) {
	want := roots(8, 2)
	for range 2 {
		told := sha.Start()
		for i, x := range told {
			if x != want[i] {
				t.Errorf("P2.1: Start()[%d] = %08x and not %08x", i, x, want[i])
			}
		}
		told[0], told[7] = 1, 2
	}
	if s := sha.Start(); s != [8]uint32{0x6a09e667, 0xbb67ae85, 0x3c6ef372, 0xa54ff53a, 0x510e527f, 0x9b05688c, 0x1f83d9ab, 0x5be0cd19} {
		t.Errorf("P2.1: Start() = %08x", s)
	}
}

// P2.2: any 8 numbers and any 64 bytes, those at the edges too.
func TestBlock(t *testing.T) {
	k := roots(64, 3)
	if k[0] != 0x428a2f98 || k[1] != 0x71374491 || k[63] != 0xc67178f2 {
		t.Fatalf("the test's own K is wrong: %08x", k)
	}
	var allBits [64]byte
	for i := range allBits {
		allBits[i] = 0xff
	}
	most := [8]uint32{}
	for i := range most {
		most[i] = 0xffffffff
	}
	check := func(v [8]uint32, b [64]byte) {
		t.Helper()
		v1, b1 := v, b
		if got, want := sha.Block(v, b), plainBlock(k, v, b); got != want || v != v1 || b != b1 {
			t.Errorf("P2.2: Block(%08x, %x) = %08x and not %08x", v, b, got, want)
		}
	}
	for _, v := range [][8]uint32{{}, most, sha.Start()} {
		check(v, [64]byte{})
		check(v, allBits)
	}
	for i := range 64 {
		var high, low [64]byte
		high[i], low[i] = 0x80, 1
		check(sha.Start(), high)
		check([8]uint32{}, low)
	}
	for i := range 8 {
		var high, low [8]uint32
		high[i], low[i] = 1<<31, 1
		check(low, [64]byte{})
		check(high, allBits)
	}
	r := rand.New(rand.NewSource(2))
	for range 300 {
		var v [8]uint32
		var b [64]byte
		for i := range v {
			v[i] = r.Uint32()
		}
		r.Read(b[:])
		check(v, b)
	}
}

// P2.2: what Block tells of the two blocks of a published example.
func TestBlockPublished(t *testing.T) {
	var one, two [64]byte
	copy(one[:], "abcdbcdecdefdefgefghfghighijhijkijkljklmklmnlmnomnopnopq\x80")
	two[62], two[63] = 0x01, 0xc0
	h := sha.Block(sha.Start(), one)
	if h != [8]uint32{0x85e655d6, 0x417a1795, 0x3363376a, 0x624cde5c, 0x76e09589, 0xcac5f811, 0xcc4b32c1, 0xf20e533a} {
		t.Errorf("P2.2: the first block: %08x", h)
	}
	if h = sha.Block(h, two); h != [8]uint32{0x248d6a61, 0xd20638b8, 0xe5c02693, 0x0c3e6039, 0xa33ce459, 0x64ff2167, 0xf6ecedd4, 0x19db06c1} {
		t.Errorf("P2.2: the second block: %08x", h)
	}
}

// P2.5: the digests that the chapter names, of no list too.
func TestNamed(t *testing.T) {
	const nothing = "e3b0c44298fc1c149afbf4c8996fb92427ae41e4649b934ca495991b7852b855"
	const abc = "ba7816bf8f01cfea414140de5dae2223b00361a396177a9cb410ff61f20015ad"
	for _, b := range [][]byte{nil, {}} {
		if got := text(sha.Sum(b)); got != nothing {
			t.Errorf("P2.5: Sum of nothing = %s", got)
		}
	}
	if got := text(sha.Sum([]byte("abc"))); got != abc {
		t.Errorf("P2.5: Sum(abc) = %s", got)
	}
	h := sha.New()
	if got := text(h.Sum()); got != nothing {
		t.Errorf("P2.5: of a new hash: %s", got)
	}
	h.Write([]byte("abc"))
	if got := text(h.Sum()); got != abc {
		t.Errorf("P2.5: of a hash of abc: %s", got)
	}
}

// P2.3: lengths at which the padding, or the length behind it, needs a block
// more, and on both sides of them. The digests are those of another program.
func TestLengths(t *testing.T) {
	for _, x := range []struct {
		n    int
		want string
	}{
		{0, "e3b0c44298fc1c149afbf4c8996fb92427ae41e4649b934ca495991b7852b855"},
		{1, "4bf5122f344554c53bde2ebb8cd2b7e3d1600ad631c385a5d7cce23c7785459a"},
		{3, "ce562c676ea7aba9812f54db146b0096011bf3e423edfb0a6f8fb2b02674a801"},
		{54, "5556be1c204be4be0266d24d065b006343ecd327c0adbc0c98db3a359eb7a9b6"},
		{55, "16fa57a0a3423a715d594516339f36189d6b5f93754a9714fef202616a9fabfe"},
		{56, "c37b44e5f1b18554b36966f4f8e08bfbf3164c4b6c10374d12d89850892073c5"},
		{57, "12b234922502022f755ab8550a3d4e202ad39c81d961a4f59ec39d5fd83d15a7"},
		{63, "bbba992d2c85af960fb2987a1fd05e0aa82a3db3c740dd8982a9e273b75e36a3"},
		{64, "66bd4633ed6f71c4ecfa4763bf7ba1c8ec7612de9aa6c0578a7b675207c71e0b"},
		{65, "9f7dc47107b750a1f3d35db5d9547f24ef40da5b731b9540d4f43710a154f6c9"},
		{119, "a3ed307b730fa77c07531300c6e4a282330011d4d4caf6bb7b63ae05950f4b66"},
		{120, "8e3b15d9fea7472655aa069620b7f8c2e55ee1499f763200a7515fe826e99d20"},
		{121, "a8320d9736c8a5a7445c87c4d18c0da2fa8fb3b323ed8318c724a5b3e230f87b"},
		{127, "44480fb9672845177f5368a08b69ea263275f2a5ec42e06a933370fe0d2968a4"},
		{128, "e462c130fef8c97e34f7dc3ff3ad2f8b3533ab849af21c10531552a2852387a4"},
		{129, "aa7ea4e8bf89146aeb67ff195fd8182a0e504c9d580aa7af8d2c862e14b98405"},
		{1000, "717b7da76b9d776f42828144de8c1dbf4b0b8ca3c508999d0b66f42938574179"},
	} {
		if got := text(sha.Sum(pattern(x.n))); got != x.want {
			t.Errorf("P2.3: of %d bytes: %s and not %s", x.n, got, x.want)
		}
	}
}

// P2.3: every length up to 300, by the digest of all their digests; and a
// length whose bits need more than two bytes.
func TestAllLengths(t *testing.T) {
	var all []byte
	for n := range 301 {
		d := sha.Sum(pattern(n))
		all = append(all, d[:]...)
	}
	if got := text(sha.Sum(all)); got != "dd5f0ad87d9ca5c069b637daf4b323a184151592bee7b2dc83fad49c2319e438" {
		t.Errorf("P2.3: of all digests: %s", got)
	}
	if got := text(sha.Sum([]byte(strings.Repeat("a", 1000000)))); got != "cdc76e5c9914fb9281a1c7e284d73e67f1809a48a497200e046d39ccc7112cd0" {
		t.Errorf("P2.3: of a million a: %s", got)
	}
}

// P2.3: the padding and the length as the chapter says them, Block by Block.
func TestPadding(t *testing.T) {
	for n := range 200 {
		b := append(pattern(n), 0x80)
		for len(b)%64 != 56 {
			b = append(b, 0)
		}
		b = append(b, 0, 0, 0, 0, 0, 0, byte(8*n>>8), byte(8*n))
		h := sha.Start()
		for ; len(b) > 0; b = b[64:] {
			h = sha.Block(h, [64]byte(b))
		}
		var want [32]byte
		for i := range want {
			want[i] = byte(h[i/4] >> (24 - 8*(i%4)))
		}
		if got := sha.Sum(pattern(n)); got != want {
			t.Errorf("P2.3: of %d bytes: %x and not %x", n, got, want)
		}
	}
}

// P2.4: parts of every length, with a Sum behind each of them or at the end
// alone.
func TestParts(t *testing.T) {
	whole := pattern(300)
	for size := 1; size <= 130; size++ {
		told, untold := sha.New(), sha.New()
		for at := 0; at < len(whole); at += size {
			end := min(at+size, len(whole))
			told.Write(whole[at:end])
			untold.Write(whole[at:end])
			if told.Sum() != sha.Sum(whole[:end]) {
				t.Fatalf("P2.4: parts of %d, up to %d", size, end)
			}
		}
		if untold.Sum() != sha.Sum(whole) {
			t.Errorf("P2.4: parts of %d, told at the end alone", size)
		}
	}
}

// P2.4: parts that end within a block, at its end and behind it, and parts of
// no bytes among them.
func TestUnlikeParts(t *testing.T) {
	for _, sizes := range [][]int{{0}, {0, 0, 3}, {64, 0}, {0, 64}, {63, 1}, {63, 2}, {1, 63, 64}, {60, 0, 4, 0, 1}, {64, 64}, {128, 1}, {1, 128}, {10, 200, 54}, {55}, {56}, {55, 1}, {56, 8}} {
		h, all := sha.New(), 0
		whole := pattern(400)
		for _, n := range sizes {
			h.Write(whole[all : all+n])
			all += n
		}
		if h.Sum() != sha.Sum(whole[:all]) {
			t.Errorf("P2.4: parts %v", sizes)
		}
		h.Write(nil)
		h.Write([]byte{})
		if h.Sum() != sha.Sum(whole[:all]) {
			t.Errorf("P2.4: parts %v and two of no bytes", sizes)
		}
	}
}

// P2.4: a Sum is told again as it was, and changes nothing of what is written
// behind it.
func TestSumBetween(t *testing.T) {
	for _, n := range []int{0, 1, 55, 56, 63, 64, 65, 128} {
		h := sha.New()
		h.Write(pattern(n))
		first := h.Sum()
		if again := h.Sum(); again != first {
			t.Errorf("P2.4: %d bytes, told again: %x and not %x", n, again, first)
		}
		h.Write([]byte("on"))
		if h.Sum() != sha.Sum(append(pattern(n), "on"...)) || first != sha.Sum(pattern(n)) {
			t.Errorf("P2.4: %d bytes, written on behind a Sum", n)
		}
	}
}

// P2.4: two hashes side by side do not touch each other.
func TestSideBySide(t *testing.T) {
	one, two := sha.New(), sha.New()
	a, b := pattern(200), []byte(strings.Repeat("b", 200))
	for at := 0; at < 200; at += 40 {
		one.Write(a[at : at+40])
		two.Write(b[at : at+40])
		if one.Sum() != sha.Sum(a[:at+40]) || two.Sum() != sha.Sum(b[:at+40]) {
			t.Errorf("P2.4: two hashes at %d", at)
		}
	}
	if sha.New().Sum() != sha.Sum(nil) {
		t.Error("P2.4: a new hash beside others is of nothing")
	}
}

// R3: bytes that were written may be changed, and are not changed by the hash,
// nor is the room behind them.
func TestHandedIn(t *testing.T) {
	for _, n := range []int{0, 10, 63, 64, 65, 100} {
		room := pattern(n + 200)
		want := sha.Sum(pattern(n))
		h := sha.New()
		h.Write(room[:n])
		if sha.Sum(room[:n]) != want {
			t.Errorf("P2.3: %d bytes with room behind them", n)
		}
		if string(room) != string(pattern(n+200)) {
			t.Errorf("R3: of %d bytes, or behind them, something is another now", n)
		}
		clear(room)
		if h.Sum() != want {
			t.Errorf("R3: %d bytes that are changed behind the Write", n)
		}
	}
}

// P2.4: of no hash nothing, and Sum of nothing.
func TestNoHash(t *testing.T) {
	var none *sha.Hash
	for _, b := range [][]byte{nil, {}, []byte("x"), pattern(100)} {
		none.Write(b)
		if none.Sum() != sha.Sum(nil) {
			t.Errorf("P2.4: of no hash, %d bytes written: %x", len(b), none.Sum())
		}
	}
}
