package octet_test

import (
	"bytes"
	"math"
	"math/rand"
	"strings"
	"testing"

	"ratchet/api"
	"ratchet/octet"
)

// roomy: the bytes of s, with room behind their end that is filled with '~'.
func roomy(s string) []byte {
	b := []byte(s + "~~~~~~~~~~~~")
	return b[:len(s)]
}

// kept fails if what roomy made of s, or the room behind it, is another now.
func kept(t *testing.T, b []byte, s string) {
	t.Helper()
	if want := s + "~~~~~~~~~~~~"; string(b[:len(want)]) != want {
		t.Errorf("what was handed in is %q", b[:len(want)])
	}
}

// P1.1: a word is 8 bytes, the highest one first.
func TestWordPuts(t *testing.T) {
	for _, x := range []struct {
		before string
		n      uint64
		want   string
	}{
		{"", 0, "\x00\x00\x00\x00\x00\x00\x00\x00"},
		{"", 258, "\x00\x00\x00\x00\x00\x00\x01\x02"},
		{"ab", 0x0123456789abcdef, "ab\x01\x23\x45\x67\x89\xab\xcd\xef"},
		{"\x00", 1 << 63, "\x00\x80\x00\x00\x00\x00\x00\x00\x00"},
		{"x", math.MaxUint64, "x\xff\xff\xff\xff\xff\xff\xff\xff"},
	} {
		if b := octet.Word([]byte(x.before), x.n); string(b) != x.want {
			t.Errorf("P1.1: Word(%q, %d) = %x", x.before, x.n, b)
		}
	}
	if b := octet.Word(nil, 1); string(b) != "\x00\x00\x00\x00\x00\x00\x00\x01" {
		t.Errorf("P1.1: Word(nil, 1) = %x", b)
	}
}

// P1.1: a half is 2 bytes, the highest one first.
func TestHalfPuts(t *testing.T) {
	for _, x := range []struct {
		before string
		n      uint16
		want   string
	}{
		{"", 0, "\x00\x00"}, {"", 1, "\x00\x01"}, {"ab", 0x0203, "ab\x02\x03"}, {"", 0x8000, "\x80\x00"}, {"x", math.MaxUint16, "x\xff\xff"},
	} {
		if b := octet.Half([]byte(x.before), x.n); string(b) != x.want {
			t.Errorf("P1.1: Half(%q, %d) = %x", x.before, x.n, b)
		}
	}
}

// P1.1: a text is how many bytes it has, and these, of whatever kind they are.
func TestTextPuts(t *testing.T) {
	for _, x := range []struct{ before, s, want string }{
		{"", "", "\x00\x00"}, {"", "ab", "\x00\x02ab"}, {"ab", "", "ab\x00\x00"}, {"?", "\x00\xff\xc3", "?\x00\x03\x00\xff\xc3"}, {"", "\u00e9", "\x00\x02\u00e9"},
	} {
		if b, e := octet.Text([]byte(x.before), x.s); string(b) != x.want || e != api.OK {
			t.Errorf("P1.1: Text(%q, %q) = %x, %d", x.before, x.s, b, e)
		}
	}
	for _, n := range []int{255, 256, 257, 65534, 65535} {
		s := strings.Repeat("s", n)
		want := "a" + string([]byte{byte(n >> 8), byte(n)}) + s
		if b, e := octet.Text([]byte("a"), s); string(b) != want || e != api.OK {
			t.Errorf("P1.1: a text of %d bytes: %d bytes, %d", n, len(b), e)
		}
	}
}

// P1.1: a text of more than 65535 bytes is refused, and nothing is answered.
func TestTextRefuses(t *testing.T) {
	for _, n := range []int{65536, 65537, 131072, 131075} {
		if b, e := octet.Text([]byte("abc"), strings.Repeat("s", n)); len(b) != 0 || e != api.ErrMany {
			t.Errorf("P1.1: a text of %d bytes: %d bytes, %d", n, len(b), e)
		}
	}
}

// P1.1, R3: what is put is in new memory; neither b nor the room behind its end is written to, then or later.
func TestPutsAreNew(t *testing.T) {
	text := func(b []byte) []byte {
		out, _ := octet.Text(b, "txt")
		return out
	}
	for name, put := range map[string]func(b []byte) []byte{
		"Word": func(b []byte) []byte { return octet.Word(b, 7) },
		"Half": func(b []byte) []byte { return octet.Half(b, 7) },
		"Text": text,
	} {
		b := roomy("own")
		one := put(b)
		two := put(b)
		kept(t, b, "own")
		was := string(one)
		b[0] = '!'
		for i := range two {
			two[i] = '#'
		}
		if string(one) != was {
			t.Errorf("P1.1: %s shares memory", name)
		}
		if string(b) != "!wn" {
			t.Errorf("P1.1: %s shares memory with what was handed in", name)
		}
	}
	b := roomy("own")
	octet.Text(b, strings.Repeat("s", 65536))
	kept(t, b, "own")
}

// P1.2: what a cut asks for is what comes next, in order.
func TestCutAnswers(t *testing.T) {
	c := octet.New([]byte("\x00\x00\x00\x00\x00\x00\x01\x02\xff\xfe\x80\x00\x02ab\x00\x00raw"))
	if n := c.Word(); n != 258 || c.Left() != 12 || !c.Ok() {
		t.Error("P1.2: word", n, c.Left(), c.Ok())
	}
	if n := c.Half(); n != 0xfffe || c.Left() != 10 || !c.Ok() {
		t.Error("P1.2: half", n, c.Left(), c.Ok())
	}
	if n := c.Byte(); n != 0x80 || c.Left() != 9 || !c.Ok() {
		t.Error("P1.2: byte", n, c.Left(), c.Ok())
	}
	if s := c.Text(2); s != "ab" || c.Left() != 5 || !c.Ok() {
		t.Errorf("P1.2: text %q, %d", s, c.Left())
	}
	if s := c.Text(0); s != "" || c.Left() != 3 || !c.Ok() {
		t.Errorf("P1.2: text of no bytes: %q, %d", s, c.Left())
	}
	if b := c.Raw(3); string(b) != "raw" || c.Left() != 0 || !c.Ok() {
		t.Errorf("P1.2: raw %q, %d", b, c.Left())
	}
	if b := c.Raw(0); len(b) != 0 || c.Left() != 0 || !c.Ok() {
		t.Errorf("P1.2: no bytes at the end: %q, %d", b, c.Left())
	}
	if n := octet.New([]byte("\x01\x23\x45\x67\x89\xab\xcd\xef")).Word(); n != 0x0123456789abcdef {
		t.Errorf("P1.2: word %x", n)
	}
}

// P1.2: a text may have as many bytes as most says, and as a half can say.
func TestCutTextMost(t *testing.T) {
	long := strings.Repeat("s", 65535)
	b, _ := octet.Text(nil, long)
	for _, most := range []int{65535, 65536, math.MaxInt} {
		if c := octet.New(b); c.Text(most) != long || c.Left() != 0 || !c.Ok() {
			t.Error("P1.2: a text of 65535 bytes, most", most)
		}
	}
	if c := octet.New(b); c.Text(65534) != "" || c.Left() != 65537 || c.Ok() {
		t.Error("P1.2: a text of 65535 bytes, most 65534")
	}
}

// asked: what a cut was asked for answered nothing.
type asked struct {
	name    string
	nothing func(c *octet.Cut) bool
}

// P1.2: what does not stand there whole spoils the cut, and its place stays.
func TestCutSpoils(t *testing.T) {
	word := asked{"Word", func(c *octet.Cut) bool { return c.Word() == 0 }}
	half := asked{"Half", func(c *octet.Cut) bool { return c.Half() == 0 }}
	one := asked{"Byte", func(c *octet.Cut) bool { return c.Byte() == 0 }}
	text := func(most int) asked {
		return asked{"Text", func(c *octet.Cut) bool { return c.Text(most) == "" }}
	}
	raw := func(n int) asked {
		return asked{"Raw", func(c *octet.Cut) bool { return len(c.Raw(n)) == 0 }}
	}
	for i, x := range []struct {
		bytes string
		ask   asked
	}{
		{"", word}, {"\x01", word}, {"\x01\x02\x03\x04\x05\x06\x07", word},
		{"", half}, {"\x01", half},
		{"", one},
		{"", text(9)}, {"\x00", text(9)}, {"\x01", text(9)}, {"\x00\x01", text(9)}, {"\x00\x03ab", text(9)}, {"\xff\xffab", text(math.MaxInt)},
		{"\x00\x02ab", text(1)}, {"\x00\x01a", text(0)}, {"\x00\x00", text(-1)}, {"\x00\x02ab", text(math.MinInt)}, {"\x01\x02ab", text(2)},
		{"", raw(1)}, {"ab", raw(3)}, {"ab", raw(math.MaxInt)}, {"ab", raw(-1)}, {"", raw(-1)}, {"ab", raw(-2)}, {"ab", raw(math.MinInt)},
	} {
		for _, before := range []string{"", "?", "???"} {
			c := octet.New([]byte(before + x.bytes))
			c.Raw(len(before))
			if !c.Ok() {
				t.Errorf("P1.2: %d: spoilt too soon", i)
			}
			if !x.ask.nothing(c) || c.Ok() || c.Left() != len(x.bytes) {
				t.Errorf("P1.2: %d: %s of %q: %d left, ok %t", i, x.ask.name, x.bytes, c.Left(), c.Ok())
			}
		}
	}
}

// P1.2: once spoilt a cut answers nothing any more, though there are bytes enough.
func TestCutStaysSpoilt(t *testing.T) {
	const all = "\x00\x01abcdefghijkl"
	for name, spoil := range map[string]func(c *octet.Cut){
		"Text": func(c *octet.Cut) { c.Text(0) },
		"Raw":  func(c *octet.Cut) { c.Raw(-1) },
		"more": func(c *octet.Cut) { c.Raw(len(all) + 1) },
	} {
		c := octet.New([]byte(all))
		spoil(c)
		for range 2 {
			if c.Word() != 0 || c.Half() != 0 || c.Byte() != 0 || c.Text(9) != "" || len(c.Raw(1)) != 0 || len(c.Raw(0)) != 0 || len(c.Raw(-1)) != 0 {
				t.Errorf("P1.2: spoilt by %s it answers", name)
			}
			if c.Left() != len(all) || c.Ok() {
				t.Errorf("P1.2: spoilt by %s: %d left, ok %t", name, c.Left(), c.Ok())
			}
		}
	}
}

// P1.2, R3: a cut's bytes are its own, and so are those that Raw answers.
func TestCutMemory(t *testing.T) {
	b := roomy("\x00\x02abraw!")
	c := octet.New(b)
	b[2], b[4] = 'X', 'X'
	if s := c.Text(2); s != "ab" {
		t.Errorf("P1.2: text %q", s)
	}
	d := octet.New([]byte("rawraw"))
	one := d.Raw(3)
	one[0] = 'X'
	_ = append(one, "YYY"...)
	if two := d.Raw(3); string(two) != "raw" || string(one) != "Xaw" {
		t.Errorf("P1.2: raw %q, %q", one, two)
	}
	e := roomy("own")
	octet.New(e).Raw(3)
	kept(t, e, "own")
}

// P1.2: a cut of nil, or of no bytes, is not spoilt; nothing is left.
func TestCutOfNothing(t *testing.T) {
	for _, b := range [][]byte{nil, {}} {
		c := octet.New(b)
		if c == nil || !c.Ok() || c.Left() != 0 || len(c.Raw(0)) != 0 || !c.Ok() {
			t.Error("P1.2: a cut of no bytes")
		}
		if c.Byte() != 0 || c.Ok() || c.Left() != 0 {
			t.Error("P1.2: a cut of no bytes gave one")
		}
	}
}

// P1.2, R4: of no cut all is 0, or nothing, and no.
func TestNoCut(t *testing.T) {
	var c *octet.Cut
	for range 2 {
		if c.Ok() || c.Left() != 0 || c.Word() != 0 || c.Half() != 0 || c.Byte() != 0 || c.Text(0) != "" || c.Text(9) != "" || c.Text(-1) != "" || len(c.Raw(0)) != 0 || len(c.Raw(1)) != 0 || len(c.Raw(-1)) != 0 {
			t.Error("P1.2: of no cut")
		}
	}
}

// piece is something that is put, and how it is cut again.
type piece struct {
	put func(b []byte) []byte
	cut func(c *octet.Cut) bool // is it there again?
}

func wordPiece(n uint64) piece {
	return piece{func(b []byte) []byte { return octet.Word(b, n) }, func(c *octet.Cut) bool { return c.Word() == n }}
}

func halfPiece(n uint16) piece {
	return piece{func(b []byte) []byte { return octet.Half(b, n) }, func(c *octet.Cut) bool { return c.Half() == n }}
}

func textPiece(s string) piece {
	put := func(b []byte) []byte {
		out, _ := octet.Text(b, s)
		return out
	}
	return piece{put, func(c *octet.Cut) bool { return c.Text(len(s)) == s }}
}

// bytesPiece is bytes that are put as they are, to be cut by Raw, or each by Byte.
func bytesPiece(s string, whole bool) piece {
	cut := func(c *octet.Cut) bool {
		if whole {
			return string(c.Raw(len(s))) == s
		}
		for i := range len(s) {
			if c.Byte() != s[i] {
				return false
			}
		}
		return true
	}
	return piece{func(b []byte) []byte { return append(bytes.Clone(b), s...) }, cut}
}

// anyPiece: one of any kind; only the last one may be of no bytes where full says so.
func anyPiece(r *rand.Rand, full bool) piece {
	s := make([]byte, r.Intn(300))
	r.Read(s)
	if full && len(s) == 0 {
		s = []byte{1}
	}
	switch r.Intn(5) {
	case 0:
		return wordPiece(r.Uint64())
	case 1:
		return halfPiece(uint16(r.Uint32()))
	case 2:
		return textPiece(string(s))
	case 3:
		return bytesPiece(string(s), true)
	}
	return bytesPiece(string(s), false)
}

// P1.3: what was put one behind the other is cut again, in order, and nothing is left; with one byte less it is spoilt ahead of the end.
func TestPutAndCut(t *testing.T) {
	r := rand.New(rand.NewSource(1))
	rows := [][]piece{
		{wordPiece(0)}, {halfPiece(0)}, {textPiece("")}, {textPiece(strings.Repeat("s", 65535))},
		{textPiece("a"), textPiece(""), wordPiece(math.MaxUint64), halfPiece(math.MaxUint16), bytesPiece("", true), bytesPiece("b", false)},
	}
	for range 300 {
		var row []piece
		for range r.Intn(6) {
			row = append(row, anyPiece(r, false))
		}
		rows = append(rows, append(row, anyPiece(r, true)))
	}
	for i, row := range rows {
		var b []byte
		for _, p := range row {
			b = p.put(b)
		}
		c := octet.New(b)
		for j, p := range row {
			if !p.cut(c) || !c.Ok() {
				t.Fatalf("P1.3: row %d: piece %d is another", i, j)
			}
		}
		if c.Left() != 0 {
			t.Errorf("P1.3: row %d: %d left", i, c.Left())
		}
		less := octet.New(b[:len(b)-1])
		for _, p := range row {
			p.cut(less)
		}
		if less.Ok() {
			t.Errorf("P1.3: row %d: with one byte less it is not spoilt", i)
		}
	}
}

// P1.3: wherever what was put ends too soon, the cut is spoilt by the piece that is not whole, and not by one ahead of it.
func TestCutTooShort(t *testing.T) {
	row := []piece{wordPiece(1), textPiece("text"), halfPiece(2), bytesPiece("raw", true), bytesPiece("b", false)}
	var b []byte
	var ends []int
	for _, p := range row {
		b = p.put(b)
		ends = append(ends, len(b))
	}
	for n := range b {
		c := octet.New(b[:n])
		place := 0
		for j, p := range row {
			p.cut(c)
			if c.Ok() != (ends[j] <= n) {
				t.Errorf("P1.3: of %d bytes, piece %d: ok %t", n, j, c.Ok())
			}
			if c.Ok() {
				place = ends[j]
			}
		}
		if c.Left() != n-place {
			t.Errorf("P1.3: of %d bytes %d are left", n, c.Left())
		}
	}
}

// R5: a copy of what was put is cut alike, however often.
func TestCutsAreAlike(t *testing.T) {
	b := []byte("\x00\x02ab")
	for range 3 {
		c := octet.New(b)
		if s := c.Text(1); s != "" || c.Ok() || c.Left() != 4 {
			t.Errorf("P1.2: %q, %d left", s, c.Left())
		}
	}
}
