package freemap_test

import (
	"math/rand"
	"testing"

	"foyer/api"
	"foyer/freemap"
)

// plain is the chapter's words, thing by thing.
type plain struct {
	used []bool
}

func newPlain(n int) *plain { return &plain{make([]bool, n)} }

func (p *plain) may(i int) bool { return i >= 0 && i < len(p.used) }

func (p *plain) left() int {
	n := 0
	for _, used := range p.used {
		if !used {
			n++
		}
	}
	return n
}

func (p *plain) use(i int) api.Errno {
	if !p.may(i) {
		return api.ErrArg
	}
	if p.used[i] {
		return api.ErrBusy
	}
	p.used[i] = true
	return api.OK
}

func (p *plain) give(i int) api.Errno {
	if !p.may(i) {
		return api.ErrArg
	}
	if !p.used[i] {
		return api.ErrNone
	}
	p.used[i] = false
	return api.OK
}

func (p *plain) take() (int, api.Errno) {
	for i, used := range p.used {
		if !used {
			p.used[i] = true
			return i, api.OK
		}
	}
	return -1, api.ErrSpace
}

func (p *plain) bytes() string {
	b := make([]byte, (len(p.used)+7)/8)
	for i, used := range p.used {
		if used {
			b[i/8] += 1 << (i % 8)
		}
	}
	return string(b)
}

func (p *plain) copied() *plain { return &plain{append([]bool(nil), p.used...)} }

// isRow tells whether these are free things, one behind the other, and no free one touches them.
func (p *plain) isRow(first, many int) bool {
	if many < 1 || !p.may(first) || !p.may(first+many-1) {
		return false
	}
	for _, used := range p.used[first : first+many] {
		if used {
			return false
		}
	}
	return (first == 0 || p.used[first-1]) && (first+many == len(p.used) || p.used[first+many])
}

// alike asks that a map tells of itself what the words say.
func (p *plain) alike(t *testing.T, m *freemap.Map) {
	t.Helper()
	if m == nil || m.Len() != len(p.used) || m.Left() != p.left() {
		t.Fatalf("%v; not %d things, %d free", m, len(p.used), p.left())
	}
	for i, used := range p.used {
		if m.Has(i) != used {
			t.Fatalf("of %d: Has(%d): %v", len(p.used), i, !used)
		}
	}
	if m.Has(-1) || m.Has(len(p.used)) {
		t.Fatalf("of %d: what is no thing is used", len(p.used))
	}
	if s := m.Put(); s != p.bytes() {
		t.Fatalf("of %d: bytes % x, not % x", len(p.used), s, p.bytes())
	}
	p.rows(t, m.Runs())
}

// rows asks that runs rise, that no two touch, and that they are all that is free.
func (p *plain) rows(t *testing.T, l [][2]int) {
	t.Helper()
	all, end := 0, -1
	for _, r := range l {
		if r[0] <= end || !p.isRow(r[0], r[1]) {
			t.Fatalf("of %d: runs %v", len(p.used), l)
		}
		all, end = all+r[1], r[0]+r[1]
	}
	if all != p.left() {
		t.Fatalf("of %d: runs %v of %d things, not %d", len(p.used), l, all, p.left())
	}
}

// pick is a thing there is, now and then one there is not.
func pick(r *rand.Rand, n int) int {
	if r.Intn(12) == 0 {
		return []int{-1, n, n + 1, n + 64}[r.Intn(4)]
	}
	return r.Intn(n)
}

// together does one thing to both, and asks that they answer alike; the map that goes on is told.
func together(t *testing.T, r *rand.Rand, m *freemap.Map, p *plain) *freemap.Map {
	t.Helper()
	i := pick(r, len(p.used))
	switch r.Intn(10) {
	case 0:
		return m.Copy()
	case 1:
		return reads(t, len(p.used), m.Put())
	case 2, 3, 4:
		got, e := m.Take()
		if want, we := p.take(); got != want || e != we {
			t.Fatalf("of %d: Take: %d, %d; not %d, %d", len(p.used), got, e, want, we)
		}
	case 5, 6, 7:
		if e, want := m.Give(i), p.give(i); e != want {
			t.Fatalf("of %d: Give(%d): %d, not %d", len(p.used), i, e, want)
		}
	default:
		if e, want := m.Use(i), p.use(i); e != want {
			t.Fatalf("of %d: Use(%d): %d, not %d", len(p.used), i, e, want)
		}
	}
	return m
}

// P6.1 to P6.3: rows of calls of all sorts, by the chapter's words; what a copy goes through does not change the map.
func TestAny(t *testing.T) {
	r := rand.New(rand.NewSource(6))
	for _, n := range append(sizes, 20, 100, 191, 192, 193, 500) {
		m, p := fresh(t, n), newPlain(n)
		was, wp := m.Copy(), p.copied()
		for k := range 300 {
			m = together(t, r, m, p)
			if k%10 == 0 {
				p.alike(t, m)
				wp.alike(t, was)
				was, wp = m.Copy(), p.copied()
			}
		}
		p.alike(t, m)
	}
}

// P6.4: of all maps of a few things: what is taken was free, and nothing below it was; a map comes back from its bytes; runs are all that is free, and do not touch.
func TestAllSmall(t *testing.T) {
	for n := 1; n <= 11; n++ {
		for v := range 1 << n {
			m, p := fresh(t, n), newPlain(n)
			for i := range n {
				if v>>i&1 != 0 {
					uses(t, m, i, p.use(i))
				}
			}
			p.alike(t, m)
			p.alike(t, reads(t, n, m.Put()))
			takesLowest(t, m, p)
		}
	}
}

// takesLowest asks that a Take has the lowest thing that was free, and that it is used then, and no other one.
func takesLowest(t *testing.T, m *freemap.Map, p *plain) {
	t.Helper()
	was := m.Copy()
	i, e := m.Take()
	if p.left() == 0 {
		if i != -1 || e != api.ErrSpace {
			t.Fatalf("of a full map: %d, %d", i, e)
		}
		p.alike(t, m)
		return
	}
	if e != api.OK || was.Has(i) || !m.Has(i) {
		t.Fatalf("taken: %d, %d, which was used: %v, is: %v", i, e, was.Has(i), m.Has(i))
	}
	for k := range i {
		if !was.Has(k) {
			t.Fatalf("taken: %d, and %d was free", i, k)
		}
	}
	p.use(i)
	p.alike(t, m)
}

// P6.4: the same of great maps, used here and there, to the end.
func TestAllGreat(t *testing.T) {
	r := rand.New(rand.NewSource(66))
	for _, n := range []int{63, 64, 65, 128, 129, 300, 1023, 1024} {
		for _, of := range []int{1, 2, 5, 30} {
			m, p := fresh(t, n), newPlain(n)
			for i := range n {
				if r.Intn(of+1) != 0 {
					uses(t, m, i, p.use(i))
				}
			}
			p.alike(t, reads(t, n, m.Put()))
			for p.left() > 0 {
				takesLowest(t, m, p)
			}
			takesLowest(t, m, p)
		}
	}
}
