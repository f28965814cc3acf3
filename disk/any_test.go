package disk_test

import (
	"math/rand"
	"slices"
	"testing"

	"foyer/api"
	"foyer/disk"
	"foyer/fate"
)

// plain is the chapter's words, gone through one by one.
type plain struct {
	sectors      []string
	pending      []api.Write
	off          bool
	ops, armedTo int
}

func newPlain(n int) *plain {
	p := &plain{armedTo: -1}
	for range n {
		p.sectors = append(p.sectors, of(0))
	}
	return p
}

// may tells what an operation answers, if its arguments may be, or may not.
func (p *plain) may(argumentsMay bool) api.Errno {
	if p.off {
		return api.ErrOff
	}
	if !argumentsMay {
		return api.ErrArg
	}
	if p.armedTo == 0 {
		p.off, p.armedTo = true, -1
		return api.ErrOff
	}
	p.ops++
	if p.armedTo > 0 {
		p.armedTo--
	}
	return api.OK
}

func (p *plain) has(i int) bool { return i >= 0 && i < len(p.sectors) }

func (p *plain) read(i int) (string, api.Errno) {
	if e := p.may(p.has(i)); e != api.OK {
		return "", e
	}
	s := p.sectors[i]
	for _, w := range p.pending {
		if w.Sector == i {
			s = w.Data
		}
	}
	return s, api.OK
}

func (p *plain) write(i int, s string) api.Errno {
	e := p.may(p.has(i) && len(s) == 256)
	if e == api.OK {
		p.pending = append(p.pending, api.Write{Sector: i, Data: s})
	}
	return e
}

func (p *plain) barrier() api.Errno {
	e := p.may(true)
	if e == api.OK {
		p.come(fate.Whole(len(p.pending)))
	}
	return e
}

func (p *plain) boot(choices []byte) {
	p.come(fate.Read(choices, len(p.pending)))
	p.off, p.armedTo = false, -1
}

// come lets writes come by a fate, byte by byte.
func (p *plain) come(f api.Fate) {
	for i, w := range p.pending {
		if !f.Came[i] {
			continue
		}
		now := []byte(p.sectors[w.Sector])
		for at := range now {
			if i != f.Torn || at < f.At {
				now[at] = w.Data[at]
			}
		}
		p.sectors[w.Sector] = string(now)
	}
	p.pending = nil
}

// pick is a sector that there is, mostly one of a few, now and then one that there is not.
func pick(r *rand.Rand, n int) int {
	switch r.Intn(12) {
	case 0:
		return []int{-1, n, n + 7}[r.Intn(3)]
	case 1:
		return n - 1
	}
	return r.Intn(4)
}

// some is a sector's bytes, now and then too few or too many.
func some(r *rand.Rand) string {
	size := 256
	if r.Intn(15) == 0 {
		size += []int{-256, -1, 1}[r.Intn(3)]
	}
	b := make([]byte, size)
	r.Read(b)
	return string(b)
}

// choose is choices of few bytes, many of whose bits are set.
func choose(r *rand.Rand) []byte {
	b := make([]byte, r.Intn(8))
	for i := range b {
		b[i] = byte(r.Intn(256)) >> r.Intn(4)
	}
	return b
}

// together does one thing to both, and asks that they answer alike.
func together(t *testing.T, r *rand.Rand, d *disk.Disk, p *plain) {
	t.Helper()
	i, s := pick(r, len(p.sectors)), some(r)
	switch r.Intn(20) {
	case 0:
		n := r.Intn(7) - 1
		d.Arm(n)
		p.armedTo = max(n, -1)
	case 1:
		choices := choose(r)
		d.Boot(choices)
		p.boot(choices)
	case 2, 3:
		if e, want := d.Barrier(), p.barrier(); e != want {
			t.Fatalf("Barrier: %d, not %d", e, want)
		}
	case 4, 5, 6, 7, 8, 9:
		got, e := d.Read(i)
		if want, we := p.read(i); got != want || e != we {
			t.Fatalf("Read(%d): %q, %d; not %q, %d", i, brief(got), e, brief(want), we)
		}
	default:
		if e, want := d.Write(i, s), p.write(i, s); e != want {
			t.Fatalf("Write(%d, %d bytes): %d, not %d", i, len(s), e, want)
		}
	}
}

// P5.1 to P5.4: rows of calls of all sorts, by the chapter's words.
func TestAny(t *testing.T) {
	r := rand.New(rand.NewSource(5))
	for range 100 {
		n := 64 + r.Intn(8)
		d, p := fresh(t, n), newPlain(n)
		for range 400 {
			together(t, r, d, p)
			shows(t, "any", d, p.ops, len(p.pending), p.off)
			if p.off && r.Intn(3) == 0 {
				choices := choose(r)
				d.Boot(choices)
				p.boot(choices)
			}
		}
		d.Boot(nil)
		p.boot(nil)
		for i, want := range p.sectors {
			reads(t, d, i, want)
		}
	}
}

// parted tells whether the first bytes are the one's, and the rest the other's.
func parted(now, one, other string) bool {
	for at := range 257 {
		if now == one[:at]+other[at:] {
			return true
		}
	}
	return false
}

// settled tells whether a sector is one of its contents wholly, or in part one and in part one ahead of it.
func settled(now string, contents []string) (whole, torn bool) {
	for i, one := range contents {
		for _, ahead := range contents[:i] {
			torn = torn || parted(now, one, ahead)
		}
	}
	return slices.Contains(contents, now), torn
}

// P5.5: what stood at a Barrier stands behind each Boot, unless it was written over; of what was written behind it one sector at most is parted.
func TestSettles(t *testing.T) {
	r := rand.New(rand.NewSource(55))
	for range 3000 {
		d := fresh(t, 64)
		contents := make([][]string, 6)
		for i := range contents {
			b := of(byte('a' + i))
			writes(t, d, i, b, api.OK)
			contents[i] = []string{b}
		}
		barrier(t, d, api.OK)
		n := r.Intn(9)
		d.Arm(n)
		for k := range n {
			i, b := r.Intn(4), of(byte('0'+k))
			writes(t, d, i, b, api.OK)
			contents[i] = append(contents[i], b)
		}
		barrier(t, d, api.ErrOff)
		d.Boot(choose(r))
		odd := 0
		for i, l := range contents {
			now, e := d.Read(i)
			whole, torn := settled(now, l)
			if e != api.OK || !whole && !torn {
				t.Fatalf("sector %d: %q, %d, of %d contents", i, brief(now), e, len(l))
			}
			if !whole {
				odd++
			}
		}
		if odd > 1 {
			t.Fatalf("%d sectors are parted", odd)
		}
		reads(t, d, 4, of('e'))
		reads(t, d, 5, of('f'))
		reads(t, d, 63, of(0))
	}
}

// P5.5: what a Barrier laid stands at whichever operation behind it the power goes.
func TestStands(t *testing.T) {
	for n := range 12 {
		for _, choices := range [][]byte{nil, {0}, {0xff}, {0xff, 0xff, 0, 0, 9}, {0x55, 1, 0, 200}} {
			d := fresh(t, 64)
			writes(t, d, 1, of('a'), api.OK)
			writes(t, d, 2, of('b'), api.OK)
			barrier(t, d, api.OK)
			d.Arm(n)
			for i := 10; !d.Off(); i++ {
				d.Write(i, of('x'))
			}
			d.Boot(choices)
			reads(t, d, 1, of('a'))
			reads(t, d, 2, of('b'))
		}
	}
}
