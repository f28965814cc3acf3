package pager_test

import (
	"maps"
	"math/rand"
	"strings"
	"testing"

	"foyer/api"
	"foyer/pager"
)

// someBody is a body of a drawn size, often one at an edge.
func someBody(r *rand.Rand) string {
	size := []int{0, 1, 239, 240, r.Intn(241)}[r.Intn(5)]
	if r.Intn(40) == 0 {
		size = 241 + r.Intn(300)
	}
	b := make([]byte, size)
	r.Read(b)
	return string(b)
}

// somePage is often a page that stands, now and then any other one.
func (w *twin) somePage(r *rand.Rand) int {
	l := rising(w.mx.stands)
	switch {
	case r.Intn(15) == 0:
		return noPages[r.Intn(len(noPages))]
	case len(l) > 0 && r.Intn(8) > 0:
		return l[r.Intn(len(l))]
	}
	return 1 + r.Intn(960)
}

// someKind is a kind, now and then none.
func someKind(r *rand.Rand) int {
	if r.Intn(40) == 0 {
		return kinds[r.Intn(len(kinds))]
	}
	return 1 + r.Intn(254)
}

// changes does some drawn calls of a transaction, as many of each sort as are asked.
func (w *twin) changes(r *rand.Rand, many, makes int) {
	w.t.Helper()
	for range many {
		switch k := r.Intn(10 + makes); {
		case k < 4:
			w.write(w.somePage(r), someKind(r), someBody(r))
		case k < 7:
			w.drop(w.somePage(r))
		case k < 10:
			w.read(w.somePage(r))
		default:
			w.make(someKind(r), someBody(r))
		}
	}
}

// P10.1 to P10.4: rows of drawn transactions without crashes, by the chapter's words: what stands in each sector, and all that is answered.
func TestAny(t *testing.T) {
	r := rand.New(rand.NewSource(10))
	for round := range 60 {
		w := newTwin(t, []int{64, 66, 80, 150, 400, 1024}[round%6])
		for range 25 {
			w.begin()
			w.changes(r, r.Intn(1+[]int{10, 60, 200}[r.Intn(3)]), []int{0, 6, 30}[r.Intn(3)])
			w.reads()
			if r.Intn(5) == 0 {
				w.abort()
			} else {
				w.commit()
			}
			if r.Intn(5) == 0 {
				w.p = opened(t, w.d)
				w.alike()
			}
		}
	}
}

// choices are drawn: none, some, most, or all of the writes come, and one of them may come torn.
func choices(r *rand.Rand, writes int) []byte {
	b := make([]byte, (writes+7)/8)
	how := r.Intn(4)
	for i := range b {
		b[i] = []byte{0, byte(r.Intn(256)), byte(r.Intn(256) | r.Intn(256)), 0xff}[how]
	}
	if r.Intn(3) > 0 {
		b = append(b, byte(r.Intn(128)), byte(r.Intn(2)), byte(r.Intn(256)))
	}
	return b
}

// page is a page's kind and body.
type page struct {
	kind int
	body string
}

// told are all pages of a pager, by a transaction that is let go.
func told(t *testing.T, p *pager.Pager) map[int]page {
	t.Helper()
	x, e := p.Begin()
	if e != api.OK {
		t.Fatal(e)
	}
	defer x.Abort()
	pages := map[int]page{}
	for _, n := range x.Pages() {
		kind, body, e := x.Read(n)
		if e != api.OK {
			t.Fatal(n, e)
		}
		pages[n] = page{kind, body}
	}
	return pages
}

// telling are the pages of a plain store, or of a plain transaction.
func (x *plainTx) telling() map[int]page {
	pages := map[int]page{}
	for _, n := range rising(x.stands) {
		kind, body, _ := x.read(n)
		pages[n] = page{kind, body}
	}
	return pages
}

// comesUp boots the disk, by drawn choices and with a power that may go again and again, till there is a pager.
func (w *twin) comesUp(r *rand.Rand) {
	w.t.Helper()
	for {
		w.d.Boot(choices(r, w.d.Pending()))
		if r.Intn(3) == 0 {
			w.d.Arm(r.Intn(8))
		}
		p, e := pager.Open(w.d)
		if e == api.OK {
			w.d.Arm(-1)
			w.p = p
			return
		}
		if p != nil || e != api.ErrOff || !w.d.Off() {
			w.t.Fatalf("Open: %v, %d", p, e)
		}
	}
}

// cuts begins a transaction, with the power to go at a drawn operation, and answers what the pages may be when the power has gone: those of the last commit, and those of the one under way.
func (w *twin) cuts(r *rand.Rand) (was, underWay map[int]page) {
	w.t.Helper()
	w.begin()
	was = w.mx.telling()
	w.changes(r, 1+r.Intn(30), 3)
	underWay = w.mx.telling()
	steps, _, e := w.mx.commit()
	if e == api.ErrSpace {
		w.abort()
		return was, was
	}
	w.d.Arm(r.Intn(len(steps) + 2))
	switch r.Intn(6) {
	case 0, 1:
		// The root waits alone.
		w.d.Arm(max(len(steps)-1, 0))
	case 2:
		// The power goes at a Read, and nothing was committed.
		w.d.Arm(0)
		w.x.Read(w.somePage(r))
		underWay = was
	}
	switch e := w.x.Commit(); {
	case e == api.OK:
		return underWay, underWay
	case e != api.ErrOff && e != api.ErrDead:
		w.t.Fatal(e)
	case !w.p.Dead():
		w.t.Fatal("not dead")
	}
	return was, underWay
}

// takesUp takes what the store tells as what the plain one is, and asks whether its sectors are what that needs.
func (w *twin) takesUp() {
	w.t.Helper()
	for i := range w.m.sectors {
		s, e := w.d.Read(i)
		if e != api.OK {
			w.t.Fatal(e)
		}
		w.m.sectors[i] = s
	}
	which, root := -1, ""
	for i, s := range w.m.sectors[:2] {
		// The bytes of greater epochs are greater, and a sector that is no root's has other bytes at its end.
		if s != blank && s[:8] == s[248:] && s > root {
			which, root = i, s
		}
	}
	w.m.which, w.m.epoch, w.m.chunks, w.m.stands = which, 0, [8]int{}, map[int]int{}
	if which == -1 {
		w.alike()
		return
	}
	number := func(s string, at int) int { return 256*int(s[at]) + int(s[at+1]) }
	w.m.epoch = uint64(number(root, 6))
	for i := range 8 {
		w.m.chunks[i] = number(root, 10+2*i)
		if w.m.chunks[i] == 0 {
			continue
		}
		for k := range 120 {
			if s := number(w.m.sectors[w.m.chunks[i]], 2+2*k); s != 0 {
				w.m.stands[120*i+1+k] = s
			}
		}
	}
	w.alike()
}

// P10.5: wherever the power goes, and whatever then stays, the pages are those of the last Commit that answered OK, or those of the one under way; and what is gone on with holds just so.
func TestPower(t *testing.T) {
	r := rand.New(rand.NewSource(105))
	came := [2]int{}
	for round := range 80 {
		w := newTwin(t, []int{64, 70, 130, 300}[round%4])
		for range 30 {
			was, underWay := w.cuts(r)
			// Also a pager that is not dead is let go with its disk's power now and then.
			if w.p.Dead() || r.Intn(4) == 0 {
				w.comesUp(r)
			}
			w.d.Arm(-1)
			now := told(t, w.p)
			isOld, isNew := maps.Equal(now, was), maps.Equal(now, underWay)
			if !isOld && !isNew {
				t.Fatalf("%d pages, neither the %d of the last commit nor the %d of the one under way", len(now), len(was), len(underWay))
			}
			if isOld != isNew {
				came[map[bool]int{true: 1}[isNew]]++
			}
			w.takesUp()
			w.begin()
			w.reads()
			w.changes(r, r.Intn(10), 5)
			w.commit()
		}
	}
	if came[0] < 50 || came[1] < 50 {
		t.Errorf("too few of a sort: %v", came)
	}
}

// P10.5: each way in which the last write, the root, may come, over a root and over none: its first bytes alone, or all of them, or nothing.
func TestTornRoot(t *testing.T) {
	for commits := range 4 {
		for at := range 257 {
			w := newTwin(t, 64)
			for k := range commits {
				w.begin()
				w.make(7, strings.Repeat("a", k))
				w.commit()
			}
			w.begin()
			w.make(8, "new")
			was := told(t, opened(t, w.d))
			underWay := w.mx.telling()
			steps, _, _ := w.mx.commit()
			w.d.Arm(len(steps) - 1)
			if e := w.x.Commit(); e != api.ErrOff || w.d.Pending() != 1 {
				t.Fatal(e, w.d.Pending())
			}
			w.d.Boot([]byte{1, 0, byte(at / 256), byte(at % 256)})
			w.p = opened(t, w.d)
			now, want := told(t, w.p), was
			// Behind its last byte, that of the epoch's lowest digit, it is the next root.
			if at == 256 {
				want = underWay
			}
			if !maps.Equal(now, want) {
				t.Fatalf("%d commits, torn at %d: %v", commits, at, now)
			}
			w.takesUp()
			w.begin()
			w.make(9, "goes on")
			w.commit()
		}
	}
}

// P10.5: a power that goes again and again, at the same operation of the same commit, which is begun anew each time.
func TestAgain(t *testing.T) {
	r := rand.New(rand.NewSource(1055))
	w := few(t)
	w.abort()
	for k := range 200 {
		w.begin()
		was := w.mx.telling()
		w.write(1, 1+k, "x")
		w.write(3, 1+k, "y")
		underWay := w.mx.telling()
		w.d.Arm(k % 6)
		if e := w.x.Commit(); e != api.ErrOff {
			t.Fatal(k, e)
		}
		w.comesUp(r)
		if now := told(t, w.p); !maps.Equal(now, was) && !maps.Equal(now, underWay) {
			t.Fatalf("%d: %v", k, now)
		}
		w.takesUp()
	}
}
