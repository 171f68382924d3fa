// Package octet is layer 1: numbers and texts as bytes. See shared/doc/01-octet.md.
package octet

import (
	"bytes"
	"math"
	"math/bits"

	"ratchet/api"
)

// halfSize is how many bytes a text's length has ahead of the text.
const halfSize = 2

// number is what is put, and cut, with the highest byte first.
type number interface {
	uint8 | uint16 | uint64
}

// Word: bytes with a number of 8 behind them. (P1.1)
func Word(b []byte, n uint64) []byte { return put(b, n) }

// Half: bytes with a number of 2 behind them. (P1.1)
func Half(b []byte, n uint16) []byte { return put(b, n) }

// Text: bytes with a text behind them. (P1.1)
func Text(b []byte, s string) ([]byte, api.Errno) {
	if len(s) > math.MaxUint16 {
		return nil, api.ErrMany
	}
	return append(put(b, uint16(len(s))), s...), api.OK
}

// put never appends to b itself: the room behind its end is the caller's.
func put[N number](b []byte, n N) []byte {
	size := width[N]()
	out := make([]byte, len(b), len(b)+size)
	copy(out, b)
	for i := range size {
		out = append(out, byte(n>>(8*(size-1-i))))
	}
	return out
}

// width: how many bytes a number of the type has.
func width[N number]() int {
	return bits.Len64(uint64(^N(0))) / 8
}

// Cut goes through bytes.
type Cut struct {
	bytes  []byte
	at     int
	spoilt bool
}

// New: a cut of bytes. (P1.2)
func New(b []byte) *Cut { return &Cut{bytes: bytes.Clone(b)} }

// Word: the next number of 8. (P1.2)
func (c *Cut) Word() uint64 { return cutNumber[uint64](c.take) }

// Half: the next number of 2. (P1.2)
func (c *Cut) Half() uint16 { return cutNumber[uint16](c.take) }

// Byte: the next byte. (P1.2)
func (c *Cut) Byte() byte { return cutNumber[uint8](c.take) }

// Text: the next text. (P1.2)
func (c *Cut) Text(most int) string { return cutText(c.take, textSize(c.rest(), most)) }

// Raw: the next bytes. (P1.2)
func (c *Cut) Raw(n int) []byte { return cutRaw(c.take, n) }

// Left: how many bytes are left. (P1.2)
func (c *Cut) Left() int { return len(c.rest()) }

// Ok: is it not spoilt? (P1.2)
func (c *Cut) Ok() bool { return c != nil && !c.spoilt }

// take is the one way to the bytes, so that nothing is answered of a cut that is spoilt or none. What it answers is the cut's own memory.
func (c *Cut) take(n int) []byte {
	if !c.Ok() {
		return nil
	}
	if n < 0 || n > c.Left() {
		c.spoilt = true
		return nil
	}
	from := c.at
	c.at += n
	return c.bytes[from:c.at]
}

// rest: what has not been cut yet; its memory is the cut's own.
func (c *Cut) rest() []byte {
	if c == nil {
		return nil
	}
	return c.bytes[c.at:]
}

// cutNumber: the number that comes next by take.
func cutNumber[N number](take func(n int) []byte) N {
	n := uint64(0)
	for _, b := range take(width[N]()) {
		n = n<<8 | uint64(b)
	}
	return N(n)
}

// textSize tells ahead how many bytes the next text has with its length, so that of a text that is refused the length stays uncut too; below 0 there is none to take.
func textSize(rest []byte, most int) int {
	ahead := Cut{bytes: rest}
	if n := int(ahead.Half()); ahead.Ok() && n <= most {
		return halfSize + n
	}
	return -1
}

// cutText: the text that comes next by take, size bytes with its length.
func cutText(take func(n int) []byte, size int) string {
	b := take(size)
	if len(b) < halfSize {
		return ""
	}
	return string(b[halfSize:])
}

// cutRaw: the next n bytes by take, in memory that is not the cut's.
func cutRaw(take func(n int) []byte, n int) []byte {
	return bytes.Clone(take(n))
}
