package pager_test

import (
	"bytes"
	"strings"
	"testing"

	"foyer/api"
	"foyer/disk"
	"foyer/pager"
)

// The chapter's examples.
func TestExamples(t *testing.T) {
	d := disk.New(64)
	p := opened(t, d)
	looks(t, p, 62, 0, false)
	begin := func() *pager.Tx {
		t.Helper()
		x, e := p.Begin()
		if e != api.OK {
			t.Fatal(e)
		}
		return x
	}
	is := func(e api.Errno) {
		t.Helper()
		if e != api.OK {
			t.Fatal(e)
		}
	}
	x := begin()
	page, e := x.New(7, "there")
	is(e)
	if page != 1 {
		t.Error(page)
	}
	is(x.Commit())
	looks(t, p, 60, 1, false)
	x = begin()
	is(x.Write(1, 8, "other"))
	x.Abort()
	x = begin()
	if kind, body, e := x.Read(1); kind != 7 || body != "there" || e != api.OK {
		t.Error(kind, body, e)
	}
	is(x.Write(1, 8, "other"))
	is(x.Commit())
	looks(t, p, 60, 2, false)
	x = begin()
	is(x.Drop(1))
	is(x.Commit())
	looks(t, p, 62, 3, false)
	begin()
	if x, e := p.Begin(); x != nil || e != api.ErrBusy {
		t.Error(x, e)
	}
}

// P10.4: with nothing changed nothing is done, also with the power off; errors are no change.
func TestCommitNothing(t *testing.T) {
	w := newTwin(t, 64)
	for range 3 {
		w.begin()
		w.commit()
	}
	w = few(t)
	w.reads()
	w.write(5, 7, "x")
	w.write(1, 0, "x")
	w.make(7, strings.Repeat("x", 241))
	w.drop(5)
	w.commit()
	looks(t, w.p, w.m.left(), 1, false)
	w.begin()
	w.d.Arm(0)
	w.d.Barrier()
	if e := w.x.Commit(); e != api.OK {
		t.Error(e)
	}
	looks(t, w.p, w.m.left(), 1, false)
}

// P10.4: a page that was changed, and set back, leaves its chunk dirty (9): the Commit is done.
func TestCommitBack(t *testing.T) {
	w := newTwin(t, 64)
	w.begin()
	w.make(7, "a")
	w.drop(1)
	w.operations(3, func() {
		if e := w.x.Commit(); e != api.OK {
			t.Error(e)
		}
	})
	looks(t, w.p, 62, 1, false)
	looks(t, opened(t, w.d), 62, 1, false)
}

// builders make a store, and begin a transaction of all sorts of changes.
func builders() map[string]func(t *testing.T) *twin {
	return map[string]func(t *testing.T) *twin{
		"the first page": func(t *testing.T) *twin {
			w := newTwin(t, 64)
			w.begin()
			w.make(7, "a")
			return w
		},
		"some pages": func(t *testing.T) *twin {
			w := few(t)
			w.write(3, 9, "x")
			w.make(9, "y")
			w.drop(1)
			w.write(2, 9, "z")
			w.write(3, 10, "xx")
			return w
		},
		"one page dropped": func(t *testing.T) *twin {
			w := few(t)
			w.drop(2)
			return w
		},
		"all pages dropped": func(t *testing.T) *twin {
			w := few(t)
			for page := 1; page <= 4; page++ {
				w.drop(page)
			}
			return w
		},
		"a page made and dropped, on a fresh store": func(t *testing.T) *twin {
			w := newTwin(t, 64)
			w.begin()
			w.make(7, "a")
			w.drop(1)
			return w
		},
		"several chunks": func(t *testing.T) *twin {
			w := newTwin(t, 700)
			w.begin()
			for range 600 {
				w.make(7, "a")
			}
			w.commit()
			w.begin()
			// The chunk 1 is left as it is, of the chunk 3 nothing is left.
			for _, page := range []int{599, 241, 120, 1, 600} {
				w.write(page, 8, "b")
			}
			for page := 361; page <= 480; page++ {
				w.drop(page)
			}
			w.drop(242)
			w.make(9, "c")
			return w
		},
		"a chunk that comes back": func(t *testing.T) *twin {
			w := few(t)
			for page := 1; page <= 4; page++ {
				w.drop(page)
			}
			w.commit()
			w.begin()
			w.make(11, "again")
			return w
		},
	}
}

// all is choices by which all of so many writes come.
func all(writes int) []byte { return bytes.Repeat([]byte{0xff}, (writes+7)/8) }

// toCut cuts the power of a commit behind n operations, and asks for what is to be seen then: what was done is just the first n steps.
func toCut(t *testing.T, w *twin, n int, comes bool) (steps []step, next *plain) {
	t.Helper()
	steps, next, e := w.mx.commit()
	if e != api.OK {
		t.Fatal(e)
	}
	was := w.d.Ops()
	w.d.Arm(n)
	if e := w.x.Commit(); e != api.ErrOff || w.d.Ops()-was != n || !w.d.Off() {
		t.Fatalf("cut at %d: %d behind %d operations", n, e, w.d.Ops()-was)
	}
	looks(t, w.p, w.m.left(), w.m.epoch, true)
	if e := w.x.Commit(); e != api.ErrGone {
		t.Fatal(e)
	}
	if x, e := w.p.Begin(); x != nil || e != api.ErrDead {
		t.Fatal(x, e)
	}
	stood, waited := behind(w.m.sectors, settled(steps[:n])), n-len(settled(steps[:n]))
	if w.d.Pending() != waited {
		t.Fatalf("cut at %d: %d writes wait, not %d", n, w.d.Pending(), waited)
	}
	if comes {
		w.d.Boot(all(waited))
		w.stands(behind(w.m.sectors, steps[:n]))
	} else {
		w.d.Boot(nil)
		w.stands(stood)
	}
	return steps, next
}

// settled are the steps up to the last Barrier of them.
func settled(steps []step) []step {
	for n := len(steps); n > 0; n-- {
		if steps[n-1].sector == barrierStep {
			return steps[:n]
		}
	}
	return nil
}

// P10.4, P10.5: a Commit's operations, one by one: the power goes at each of them, and all that waited comes, or nothing.
func TestCommitSteps(t *testing.T) {
	for name, build := range builders() {
		w := build(t)
		steps, _, _ := w.mx.commit()
		w = build(t)
		if e := w.commit(); e != api.OK {
			t.Fatal(name, e)
		}
		for n := range steps {
			for _, comes := range []bool{false, true} {
				w := build(t)
				_, next := toCut(t, w, n, comes)
				want := w.m
				// The root is the last one written: behind it all is so.
				if comes && n == len(steps)-1 {
					next.sectors = behind(w.m.sectors, steps)
					want = next
				}
				w.goesOn(want)
			}
		}
	}
}

// goesOn opens the store anew, asks that it is as it should be, and that it can be changed.
func (w *twin) goesOn(want *plain) {
	w.t.Helper()
	// What stands in sectors that are not used is left as it is.
	for i, free := range want.free() {
		if free {
			want.sectors[i], _ = w.d.Read(i)
		}
	}
	other := 1
	if want.which == 1 {
		other = 0
	}
	want.sectors[other], _ = w.d.Read(other)
	w.p, w.m = opened(w.t, w.d), want
	w.alike()
	w.begin()
	w.reads()
	w.make(77, "goes on")
	w.write(2, 78, "goes on")
	w.commit()
	w.begin()
	w.reads()
	w.abort()
}

// P10.4: the next root goes into the sectors 0 and 1 by turns, over several commits, also behind ones that did nothing, or were let go.
func TestRootSectors(t *testing.T) {
	w := newTwin(t, 64)
	for k := range 12 {
		w.begin()
		w.make(7, strings.Repeat("x", k))
		if k%3 == 1 {
			w.x.Abort()
			w.begin()
			w.commit()
			w.begin()
			w.make(8, "y")
		}
		w.commit()
		if k%4 == 2 {
			w.p = opened(t, w.d)
		}
		looks(t, w.p, w.m.left(), uint64(k+1), false)
		if s, e := w.d.Read(k % 2); s != rootSector(uint64(k+1), 64, w.m.chunks) || e != api.OK {
			t.Errorf("commit %d: % x, %d", k, s, e)
		}
	}
}

// P10.4: a Commit for whose chunks no sector is free does nothing, and the pager goes on.
func TestCommitNoRoom(t *testing.T) {
	w := newTwin(t, 64)
	w.begin()
	for range 62 {
		w.make(7, "a")
	}
	if e := w.commit(); e != api.ErrSpace {
		t.Error(e)
	}
	looks(t, w.p, 62, 0, false)
	w.begin()
	w.reads()
	for range 61 {
		w.make(7, "a")
	}
	if e := w.commit(); e != api.OK {
		t.Error(e)
	}
	looks(t, w.p, 0, 1, false)
	// Without a free sector not even a page can be dropped, unless no page of its chunk is left.
	w.begin()
	w.drop(1)
	if e := w.commit(); e != api.ErrSpace {
		t.Error(e)
	}
	w.begin()
	w.reads()
	for page := 1; page <= 61; page++ {
		w.drop(page)
	}
	if e := w.commit(); e != api.OK {
		t.Error(e)
	}
	looks(t, w.p, 62, 2, false)
}

// P10.4: of several chunks there is room for some: nothing is done; and where there is just room for all.
func TestCommitSomeRoom(t *testing.T) {
	for _, g := range []struct {
		sectors int
		want    api.Errno
	}{{969, api.ErrSpace}, {970, api.OK}, {971, api.OK}} {
		w := newTwin(t, g.sectors)
		w.begin()
		for range 960 {
			w.make(7, "a")
		}
		if e := w.commit(); e != g.want {
			t.Error(g.sectors, e)
		}
		if g.want == api.OK {
			looks(t, w.p, g.sectors-970, 1, false)
			continue
		}
		looks(t, w.p, g.sectors-2, 0, false)
		w.begin()
		w.reads()
	}
	w := newTwin(t, 250)
	w.begin()
	for range 240 {
		w.make(7, "a")
	}
	w.commit()
	w.begin()
	for page := 117; page <= 122; page++ {
		w.write(page, 8, "b")
	}
	w.drop(240)
	w.drop(122)
	w.drop(121)
	// Six sectors were free, of which two were let go, and one is taken anew: one is left, for two chunks.
	w.make(9, "c")
	w.reads()
	if e := w.commit(); e != api.ErrSpace {
		t.Error(e)
	}
	w.begin()
	w.reads()
	w.write(1, 8, "e")
	w.write(240, 8, "e")
	if e := w.commit(); e != api.OK {
		t.Error(e)
	}
}

// P10.4: a chunk of which one page alone stands has a sector, be it its first page or its last one; and none when that is dropped.
func TestCommitOnePage(t *testing.T) {
	w := newTwin(t, 1024)
	w.begin()
	for range 960 {
		w.make(7, "a")
	}
	w.commit()
	w.begin()
	for page := 1; page <= 960; page++ {
		if page%120 != 0 && page%240 != 1 {
			w.drop(page)
		}
	}
	w.commit()
	w.begin()
	w.reads()
	// Now of the chunks 0, 2, 4 and 6 the first page stands, and the last one; of the others the last one alone.
	for page := 240; page <= 960; page += 240 {
		w.drop(page)
		w.drop(page - 120)
	}
	if e := w.commit(); e != api.OK {
		t.Error(e)
	}
	looks(t, w.p, 1024-2-4-4, 3, false)
	w.p = opened(t, w.d)
	w.begin()
	w.reads()
}

// P10.4: Left behind each commit: what is no longer used is free.
func TestLeft(t *testing.T) {
	w := newTwin(t, 300)
	for k, g := range []struct {
		do   func()
		left int
	}{
		{func() { w.make(7, "a") }, 296},
		{func() { w.write(1, 7, "b") }, 296},
		{func() {
			for range 120 {
				w.make(7, "c")
			}
		}, 175},
		{func() { w.drop(121) }, 177},
		{func() { w.drop(1); w.drop(2) }, 179},
		{func() { w.make(7, "d") }, 178},
		{func() { w.write(1, 7, "e"); w.write(3, 7, "f"); w.write(120, 7, "g") }, 178},
		{func() {
			for _, page := range w.x.Pages() {
				w.drop(page)
			}
		}, 298},
	} {
		w.begin()
		g.do()
		if e := w.commit(); e != api.OK {
			t.Fatal(k, e)
		}
		looks(t, w.p, g.left, uint64(k+1), false)
		looks(t, opened(t, w.d), g.left, uint64(k+1), false)
	}
}

// P10.4: behind the greatest epoch there is no root: the Commit's answer is Put's, the pager is dead, and the store is as it was.
func TestLastEpoch(t *testing.T) {
	sectors := with(map[int]string{1: rootSector(1<<64-1, 64, [8]int{9, 5})})
	d := laid(t, 64, sectors)
	p := opened(t, d)
	looks(t, p, 57, 1<<64-1, false)
	x, _ := p.Begin()
	x.Write(1, 7, "other")
	if e := x.Commit(); e != api.ErrArg {
		t.Error(e)
	}
	looks(t, p, 57, 1<<64-1, true)
	d.Boot(all(20))
	p = opened(t, d)
	looks(t, p, 57, 1<<64-1, false)
	x, _ = p.Begin()
	if kind, body, e := x.Read(1); kind != 7 || body != "one" || e != api.OK {
		t.Error(kind, body, e)
	}
}
