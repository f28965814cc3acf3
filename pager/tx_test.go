package pager_test

import (
	"slices"
	"strings"
	"testing"

	"foyer/api"
	"foyer/pager"
)

// call is a call of a transaction that answers an error.
type call struct {
	name string
	do   func(x *pager.Tx) (int, string, api.Errno)
}

// calls are all of them but Commit, with arguments that may be, and that may not.
func calls() []call {
	return []call{
		{"Read", func(x *pager.Tx) (int, string, api.Errno) { return x.Read(1) }},
		{"Read of none", func(x *pager.Tx) (int, string, api.Errno) { return x.Read(961) }},
		{"Write", func(x *pager.Tx) (int, string, api.Errno) { return 0, "", x.Write(1, 7, "a") }},
		{"Write of none", func(x *pager.Tx) (int, string, api.Errno) { return 0, "", x.Write(-1, 0, "") }},
		{"New", func(x *pager.Tx) (int, string, api.Errno) {
			page, e := x.New(7, "a")
			return page, "", e
		}},
		{"New of no kind", func(x *pager.Tx) (int, string, api.Errno) {
			page, e := x.New(0, "a")
			return page, "", e
		}},
		{"Drop", func(x *pager.Tx) (int, string, api.Errno) { return 0, "", x.Drop(1) }},
		{"Drop of none", func(x *pager.Tx) (int, string, api.Errno) { return 0, "", x.Drop(0) }},
	}
}

// answers asks that all calls, and then Commit, answer that error and nothing else, and that no page is told.
func answers(t *testing.T, name string, x *pager.Tx, want api.Errno) {
	t.Helper()
	for _, c := range calls() {
		if n, s, e := c.do(x); n != 0 || s != "" || e != want {
			t.Errorf("%s: %s: %d, %q, %d, not %d", name, c.name, n, s, e, want)
		}
		if l := x.Pages(); len(l) != 0 {
			t.Errorf("%s: Pages: %v", name, l)
		}
	}
	if e := x.Commit(); e != want {
		t.Errorf("%s: Commit: %d, not %d", name, e, want)
	}
}

// few is a store with the pages 1 to 4, of the kinds 7, 7, 7, 7, and the transaction behind.
func few(t *testing.T) *twin {
	t.Helper()
	w := newTwin(t, 64)
	w.begin()
	for _, body := range []string{"a", "", strings.Repeat("c", 240), "d"} {
		w.make(7, body)
	}
	w.commit()
	w.begin()
	return w
}

// P10.2: a second transaction, behind each way in which the first one is over, and of a pager that is dead.
func TestBegin(t *testing.T) {
	w := few(t)
	isBusy := func() {
		t.Helper()
		if x, e := w.p.Begin(); x != nil || e != api.ErrBusy {
			t.Errorf("Begin: %v, %d", x, e)
		}
	}
	isBusy()
	w.write(1, 9, "x")
	isBusy()
	w.read(1)
	w.commit()
	w.begin()
	w.abort()
	w.begin()
	isBusy()
	w.commit()
	old := w.x
	w.begin()
	// What is over does not let go the next one.
	old.Abort()
	isBusy()
	if e := old.Commit(); e != api.ErrGone {
		t.Error(e)
	}
	isBusy()
	w.reads()
	w.d.Arm(0)
	w.x.Read(1)
	looks(t, w.p, w.m.left(), w.m.epoch, true)
	for range 2 {
		if x, e := w.p.Begin(); x != nil || e != api.ErrDead {
			t.Errorf("Begin: %v, %d", x, e)
		}
		w.x.Abort()
	}
}

// P10.2: Pages rises, whatever the order of what was done; what is answered is new.
func TestPages(t *testing.T) {
	w := newTwin(t, 400)
	w.begin()
	w.reads()
	for range 250 {
		w.make(3, "x")
	}
	w.reads()
	w.commit()
	w.begin()
	for _, page := range []int{120, 1, 250, 121, 119} {
		w.drop(page)
		w.reads()
	}
	w.write(2, 4, "y")
	for range 7 {
		w.make(5, "z")
		w.reads()
	}
	l := w.x.Pages()
	clear(l)
	w.reads()
	w.abort()
	w.begin()
	w.reads()
}

// operations asks how many operations of the disk something takes.
func (w *twin) operations(want int, do func()) {
	w.t.Helper()
	was := w.d.Ops()
	do()
	if n := w.d.Ops() - was; n != want {
		w.t.Errorf("%d operations, not %d", n, want)
	}
}

// P10.3: Read of a page from the commit before, of one that was written, of one that is new, of one that stands nowhere.
func TestRead(t *testing.T) {
	w := few(t)
	w.operations(4, func() {
		for page := 1; page <= 4; page++ {
			w.read(page)
		}
	})
	w.write(1, 200, "other")
	w.make(100, "new")
	w.drop(4)
	w.operations(0, func() {
		w.read(1)
		w.read(5)
		w.read(4)
		for _, page := range noPages {
			w.read(page)
		}
	})
	w.operations(2, func() {
		w.read(2)
		w.read(3)
	})
}

// P10.3: Read with the power off is ErrOff, and the pager is dead; of what was written in the transaction the disk is not asked.
func TestReadOff(t *testing.T) {
	w := few(t)
	w.write(1, 9, "x")
	w.d.Arm(0)
	w.d.Barrier()
	if kind, body, e := w.x.Read(1); kind != 9 || body != "x" || e != api.OK {
		t.Error(kind, body, e)
	}
	if _, _, e := w.x.Read(50); e != api.ErrNone {
		t.Error(e)
	}
	w.make(8, "y")
	looks(t, w.p, w.m.left(), 1, false)
	if kind, body, e := w.x.Read(2); kind != 0 || body != "" || e != api.ErrOff {
		t.Error(kind, body, e)
	}
	looks(t, w.p, w.m.left(), 1, true)
	w.d.Boot(nil)
	answers(t, "dead, also when the power is on", w.x, api.ErrDead)
	looks(t, w.p, w.m.left(), 1, true)
	looks(t, opened(t, w.d), w.m.left(), 1, false)
}

// P10.3: Read of a sector that does not open is ErrBroken; the pager goes on.
func TestReadBroken(t *testing.T) {
	for _, s := range []string{blank, strings.Repeat("x", 256), sealed(7, "a")[:255] + "\x00", rootSector(3, 64, [8]int{})} {
		w := few(t)
		// The pages stand in the sectors 2 to 5.
		w.d.Write(3, s)
		if kind, body, e := w.x.Read(2); kind != 0 || body != "" || e != api.ErrBroken {
			t.Error(kind, body, e)
		}
		looks(t, w.p, w.m.left(), 1, false)
		w.read(1)
		w.write(2, 7, "mended")
		w.read(2)
	}
}

// kinds are numbers of kinds, and of none.
var kinds = []int{-1 << 63, -255, -1, 0, 1, 2, 127, 128, 253, 254, 255, 256, 257, 510, 511, 1<<32 + 1, 1<<63 - 1}

// sizes are how many bytes bodies have, right ones and wrong ones.
var sizes = []int{0, 1, 2, 120, 239, 240, 241, 255, 256, 257, 496, 1000, 1 << 20}

// P10.3: each kind with each size of a body, of a page that stands, of one that does not, and of one that is new.
func TestKinds(t *testing.T) {
	w := few(t)
	for _, kind := range kinds {
		for _, size := range sizes {
			body := strings.Repeat("b", size)
			want := api.OK
			switch {
			case kind < 1 || kind > 254:
				want = api.ErrKind
			case size > 240:
				want = api.ErrLong
			}
			if e := w.write(2, kind, body); e != want {
				t.Errorf("Write of %d, %d bytes: %d, not %d", kind, size, e, want)
			}
			w.read(2)
			if e := w.write(5, kind, body); e != api.ErrNone {
				t.Errorf("Write of %d, %d bytes, nowhere: %d", kind, size, e)
			}
			page, e := w.make(kind, body)
			if e != want || (page == 5) != (want == api.OK) {
				t.Errorf("New of %d, %d bytes: %d, %d, not %d", kind, size, page, e, want)
			}
			w.read(5)
			w.drop(5)
		}
	}
	w.reads()
	w.commit()
	w.begin()
	w.reads()
}

// P10.3: all bytes that a body may have come back, from the transaction and from the disk.
func TestBodies(t *testing.T) {
	w := newTwin(t, 64)
	w.begin()
	all := make([]byte, 256)
	for i := range all {
		all[i] = byte(i)
	}
	w.make(254, string(all[:240]))
	w.make(1, string(all[16:]))
	w.make(2, blank[:240])
	w.make(255-2, "\xff")
	w.reads()
	w.commit()
	w.begin()
	w.reads()
}

// P10.3: a page that is written twice in a transaction stays in its sector, and one that is dropped lets go its own.
func TestSectors(t *testing.T) {
	w := newTwin(t, 64)
	w.begin()
	for range 61 {
		w.make(7, "a")
	}
	w.drop(30)
	w.commit()
	// One sector is free now, and stays so, however often it is written there.
	w.begin()
	looks(t, w.p, 1, 1, false)
	for k, body := range []string{"b", "c", "", strings.Repeat("d", 240)} {
		if e := w.write(5, 8+k, body); e != api.OK {
			t.Error(k, e)
		}
		w.read(5)
	}
	if e := w.write(6, 8, "e"); e != api.ErrSpace {
		t.Error(e)
	}
	w.drop(5)
	if e := w.write(6, 8, "e"); e != api.OK {
		t.Error(e)
	}
	if _, e := w.make(8, "f"); e != api.ErrSpace {
		t.Error(e)
	}
	w.drop(6)
	if page, e := w.make(8, "f"); page != 5 || e != api.OK {
		t.Error(page, e)
	}
	w.reads()
	// Its text and no chunk's have a sector.
	if e := w.commit(); e != api.ErrSpace {
		t.Error(e)
	}
}

// P10.3: the sector of a page of the commit before is not free till the next commit is done.
func TestDropHolds(t *testing.T) {
	w := newTwin(t, 64)
	w.begin()
	for range 60 {
		w.make(7, "a")
	}
	w.commit()
	w.begin()
	looks(t, w.p, 1, 1, false)
	for page := 1; page <= 20; page++ {
		w.drop(page)
	}
	if page, e := w.make(8, "b"); page != 1 || e != api.OK {
		t.Error(page, e)
	}
	if page, e := w.make(8, "c"); page != 0 || e != api.ErrSpace {
		t.Error(page, e)
	}
	w.drop(1)
	if e := w.commit(); e != api.OK {
		t.Error(e)
	}
	looks(t, w.p, 21, 2, false)
	w.begin()
	for range 20 {
		if _, e := w.make(9, "d"); e != api.OK {
			t.Error(e)
		}
	}
	w.reads()
}

// P10.3: where no sector is free, and where all pages stand, nothing has changed behind the error, and what is wrong besides is told by the promise's order.
func TestNoRoom(t *testing.T) {
	w := newTwin(t, 64)
	w.begin()
	for range 61 {
		w.make(7, "a")
	}
	w.commit()
	w.begin()
	for range 3 {
		if e := w.write(3, 8, "b"); e != api.ErrSpace {
			t.Error(e)
		}
		if page, e := w.make(8, "b"); page != 0 || e != api.ErrSpace {
			t.Error(page, e)
		}
		w.write(62, 8, "b")
		w.write(3, 0, "b")
		w.write(3, 255, strings.Repeat("b", 241))
		w.write(3, 8, strings.Repeat("b", 241))
		w.make(255, "b")
		w.make(8, strings.Repeat("b", 241))
		w.reads()
	}
	// Nothing has changed, so there is nothing to commit.
	w.operations(0, func() {
		if e := w.x.Commit(); e != api.OK {
			t.Error(e)
		}
	})
	w.alike()
}

// P10.3: all 960 pages.
func TestFull(t *testing.T) {
	w := newTwin(t, 1024)
	w.begin()
	for page := 1; page <= 960; page++ {
		if n, e := w.make(page%254+1, strings.Repeat("x", page%241)); n != page || e != api.OK {
			t.Fatal(page, n, e)
		}
	}
	full := func(want api.Errno) {
		t.Helper()
		if page, e := w.make(7, "x"); page != 0 || e != want {
			t.Error(page, e)
		}
		w.make(0, "x")
		w.make(7, strings.Repeat("x", 241))
		w.reads()
	}
	full(api.ErrFull)
	w.commit()
	looks(t, w.p, 1024-2-960-8, 1, false)
	w.begin()
	full(api.ErrFull)
	for page := 1; page <= 54; page++ {
		w.write(page, 9, "y")
	}
	if e := w.write(55, 9, "y"); e != api.ErrSpace {
		t.Error(e)
	}
	// ErrFull comes ahead of ErrSpace.
	full(api.ErrFull)
	w.drop(500)
	full(api.ErrSpace)
	w.drop(7)
	if page, e := w.make(7, "x"); page != 7 || e != api.OK {
		t.Error(page, e)
	}
	full(api.ErrSpace)
	w.drop(960)
	w.drop(54)
	if page, e := w.make(7, "x"); page != 54 || e != api.OK {
		t.Error(page, e)
	}
	w.reads()
	w.abort()
	w.begin()
	full(api.ErrFull)
}

// P10.3: Drop of pages of all sorts; twice; a page that is made anew is another one.
func TestDrop(t *testing.T) {
	w := few(t)
	for _, page := range noPages {
		if e := w.drop(page); e != api.ErrNone {
			t.Error(page, e)
		}
	}
	w.drop(2)
	if e := w.drop(2); e != api.ErrNone {
		t.Error(e)
	}
	w.write(2, 7, "x")
	w.make(50, "new")
	w.reads()
	w.write(3, 51, "written")
	w.drop(3)
	w.reads()
	w.make(52, "made")
	w.reads()
	w.drop(3)
	w.drop(2)
	w.reads()
	w.commit()
	w.begin()
	w.reads()
}

// P10.3: all calls of a transaction that is over are ErrGone, however it came to be, also where the pager is dead.
func TestGone(t *testing.T) {
	for name, over := range map[string]func(w *twin){
		"Commit":            func(w *twin) { w.write(1, 8, "b"); w.commit() },
		"Commit of nothing": func(w *twin) { w.commit() },
		"Abort":             func(w *twin) { w.write(1, 8, "b"); w.abort() },
		"Abort, of nothing": func(w *twin) { w.abort() },
		"Abort, twice":      func(w *twin) { w.abort(); w.abort() },
		"Commit for which there is no room": func(w *twin) {
			for range 57 {
				w.make(8, "b")
			}
			if e := w.commit(); e != api.ErrSpace {
				t.Error(e)
			}
		},
		"Commit with the power off": func(w *twin) {
			w.write(1, 8, "b")
			w.d.Arm(0)
			if e := w.x.Commit(); e != api.ErrOff || !w.p.Dead() {
				t.Error(e)
			}
		},
		"Abort, dead": func(w *twin) {
			w.d.Arm(0)
			w.x.Read(1)
			w.x.Abort()
		},
		"Commit, dead": func(w *twin) {
			w.d.Arm(0)
			w.x.Read(1)
			if e := w.x.Commit(); e != api.ErrDead {
				t.Error(e)
			}
		},
	} {
		w := few(t)
		over(w)
		dead := w.p.Dead()
		ops := w.d.Ops()
		for range 2 {
			answers(t, name, w.x, api.ErrGone)
			w.x.Abort()
		}
		if w.d.Ops() != ops || w.p.Dead() != dead {
			t.Errorf("%s: %d operations, dead %v", name, w.d.Ops()-ops, w.p.Dead())
		}
		if dead {
			continue
		}
		// Nor do they touch the next one.
		x := w.x
		w.begin()
		w.write(2, 9, "next")
		answers(t, name, x, api.ErrGone)
		w.reads()
		w.commit()
	}
}

// P10.3: all calls of a transaction whose pager is dead are ErrDead.
func TestDead(t *testing.T) {
	w := few(t)
	w.write(1, 8, "b")
	w.d.Arm(0)
	w.x.Read(2)
	w.d.Boot(nil)
	ops := w.d.Ops()
	answers(t, "dead", w.x, api.ErrDead)
	if w.d.Ops() != ops || w.d.Pending() != 0 {
		t.Error(w.d.Ops()-ops, w.d.Pending())
	}
	looks(t, w.p, w.m.left(), 1, true)
}

// R3: all calls of a transaction that is none, and of one that Begin did not make.
func TestTxNone(t *testing.T) {
	for name, x := range map[string]*pager.Tx{"nil": nil, "zero": {}} {
		for range 2 {
			answers(t, name, x, api.ErrNil)
			x.Abort()
		}
	}
}

// P10.4: behind an Abort all is as it was, whatever was done; a transaction leaves the disk alone till its Commit.
func TestAbort(t *testing.T) {
	w := few(t)
	was := slices.Clone(w.x.Pages())
	w.operations(0, func() {
		w.write(1, 8, "b")
		w.drop(2)
		w.drop(3)
		w.make(9, "c")
		w.make(9, "d")
		w.make(9, "e")
		w.write(1, 8, "f")
		w.x.Pages()
		looks(t, w.p, w.m.left(), 1, false)
		w.x.Abort()
		w.begin()
	})
	w.reads()
	if !slices.Equal(was, w.x.Pages()) {
		t.Error(was, w.x.Pages())
	}
	// As much is free as was.
	for range 57 {
		if _, e := w.make(9, "g"); e != api.OK {
			t.Fatal(e)
		}
	}
	if _, e := w.make(9, "h"); e != api.ErrSpace {
		t.Error(e)
	}
	w.abort()
}
