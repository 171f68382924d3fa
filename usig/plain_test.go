package usig_test

import (
	"encoding/binary"
	"math/rand"
	"testing"

	"ratchet/api"
	"ratchet/disk"
	"ratchet/tag"
	"ratchet/usig"
)

// text: n bytes, none of them a nought.
func text(n int) string {
	b := make([]byte, n)
	for i := range b {
		b[i] = byte(1 + i*13%251)
	}
	return string(b)
}

// sealed: what stands in the cell for a number and its bytes, as the chapter's words say it.
func sealed(n uint64, b string) string {
	return string(binary.BigEndian.AppendUint64(nil, n)) + b
}

// tagged: the tag of a replica, a number and bytes, as the chapters' words say it.
func tagged(i int, n uint64, b string) [32]byte {
	return tag.Of(tag.Replica(i), []byte(sealed(n, b)))
}

// watched is a counter, and what is known of it without asking it.
type watched struct {
	d     *disk.Disk
	i, at int
	u     *usig.Usig
	given []string // for which bytes the numbers 1, 2, .. were given
}

// P7.2, P7.4: whatever is called, and wherever the power goes, again and again: numbers rise by one, and each is given for one row of bytes.
func TestAsThePlainWords(t *testing.T) {
	for seed := range int64(60) {
		r := rand.New(rand.NewSource(seed))
		w := watched{d: disk.New(), i: 1 + r.Intn(api.MaxReplicas), at: r.Intn(40)}
		made(t, "Format", usig.Format(w.d, w.at), api.OK)
		w.u = counts(t, w.i, w.d, w.at)
		for range 80 {
			w.told(t)
			switch r.Intn(6) {
			case 0:
				w.u = counts(t, w.i, w.d, w.at)
			case 1:
				fails(t, w.u, make([]byte, api.MaxBody+1+r.Intn(3)), api.ErrMany)
			case 2:
				w.crash(t, r)
			case 3:
				w.rest(t, r)
			default:
				b := anyText(r)
				next(t, w.u, w.i, uint64(len(w.given))+1, b)
				w.given = append(w.given, b)
			}
		}
	}
}

// anyText: as many bytes as may be, or fewer.
func anyText(r *rand.Rand) string {
	n := r.Intn(api.MaxBody + 1)
	switch r.Intn(4) {
	case 0:
		n = r.Intn(3)
	case 1:
		n = api.MaxBody - r.Intn(3)
	}
	b := make([]byte, n)
	r.Read(b)
	return string(b)
}

// told: the last number is the one that was given last, for the same bytes.
func (w *watched) told(t *testing.T) {
	t.Helper()
	n := len(w.given)
	if n == 0 {
		last(t, w.u, w.i, 0, "")
		return
	}
	last(t, w.u, w.i, uint64(n), w.given[n-1])
}

// rest: the power goes while nothing is written, and comes again.
func (w *watched) rest(t *testing.T, r *rand.Rand) {
	t.Helper()
	w.d.Off()
	w.told(t)
	refused(t, w.i, w.d, w.at, api.ErrPower)
	if r.Intn(2) == 0 {
		fails(t, w.u, nil, api.ErrPower)
		made(t, "On", w.d.On(), api.OK)
		fails(t, w.u, nil, api.ErrPower)
		w.u = counts(t, w.i, w.d, w.at)
		return
	}
	made(t, "On", w.d.On(), api.OK)
}

// crash: the power goes within a Next, and comes again, by any picks; the number was sealed for what was tried, or it is still to be given.
func (w *watched) crash(t *testing.T, r *rand.Rand) {
	t.Helper()
	tried := anyText(r)
	w.d.Fuse(r.Intn(11))
	fails(t, w.u, []byte(tried), api.ErrPower)
	w.told(t)
	picks := make([]byte, r.Intn(13))
	r.Read(picks)
	if r.Intn(2) == 0 {
		picks = []byte{1, 3, 5, 7, 1, 3, 5, 7, 1, 3}
	}
	made(t, "On", w.d.On(picks...), api.OK)
	fails(t, w.u, nil, api.ErrPower)
	w.u = counts(t, w.i, w.d, w.at)
	if n, _, _ := w.u.Last(); n > uint64(len(w.given)) {
		w.given = append(w.given, tried)
	}
}
