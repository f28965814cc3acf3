package over_test

import (
	"strings"
	"testing"

	"foyer/api"
	"foyer/disk"
	"foyer/over"
	"foyer/pager"
)

// laid is a store with a chain of so many pages that was committed, opened anew.
func laid(t *testing.T, pages int) (w *twin, first int) {
	t.Helper()
	w = newTwin(t, 64)
	w.page(7, "ahead")
	first = w.handmade(pages, 96)
	w.is(w.x.Commit(), api.OK)
	w.open()
	return w, first
}

// calls are the calls that read, by names: each one's error, and whether it answers something beside it.
func calls(first, n int) map[string]func(x *pager.Tx) (api.Errno, bool) {
	return map[string]func(x *pager.Tx) (api.Errno, bool){
		"Get":   func(x *pager.Tx) (api.Errno, bool) { s, e := over.Get(x, first, n); return e, s != "" },
		"Pages": func(x *pager.Tx) (api.Errno, bool) { l, e := over.Pages(x, first); return e, len(l) != 0 },
		"Drop":  func(x *pager.Tx) (api.Errno, bool) { return over.Drop(x, first), false },
	}
}

// putting is a Put, likewise.
func putting(n int) func(x *pager.Tx) (api.Errno, bool) {
	return func(x *pager.Tx) (api.Errno, bool) { first, e := over.Put(x, text(n)); return e, first != 0 }
}

// P12.3 to P12.5: the power goes at each Read of a chain; then the pager is dead.
func TestPowerGoes(t *testing.T) {
	for pages := 1; pages <= 9; pages++ {
		n := 238*(pages-1) + 96
		for name, call := range calls(1+pages, n) {
			for at := range pages {
				w, _ := laid(t, pages)
				was := w.d.Ops()
				w.d.Arm(at)
				if e, more := call(w.x); e != api.ErrOff || more {
					t.Errorf("%s, off at %d: %d, %t", name, at, e, more)
				}
				if ops := w.d.Ops() - was; ops != at {
					t.Errorf("%s: %d operations, not %d", name, ops, at)
				}
				for again, call := range calls(1+pages, n) {
					if e, more := call(w.x); e != api.ErrDead || more {
						t.Errorf("%s behind %s: %d, %t", again, name, e, more)
					}
				}
				if e, more := putting(n)(w.x); e != api.ErrDead || more {
					t.Errorf("Put behind %s: %d, %t", name, e, more)
				}
				w.d.Boot(nil)
				w.open()
				w.alike()
			}
			w, _ := laid(t, pages)
			was := w.d.Ops()
			w.d.Arm(pages)
			if e, _ := call(w.x); e != api.OK || w.d.Ops()-was != pages {
				t.Errorf("%s of %d pages: %d, %d operations", name, pages, e, w.d.Ops()-was)
			}
		}
	}
}

// P12.2: a Put reads nothing, so it goes on while the power is off, as New does; what it made is not kept.
func TestPutPower(t *testing.T) {
	w, _ := laid(t, 3)
	w.d.Arm(0)
	w.d.Barrier()
	was := w.d.Ops()
	if e, more := putting(2000)(w.x); e != api.OK || !more || w.d.Ops() != was {
		t.Error(e, more)
	}
	w.is(w.x.Commit(), api.ErrOff)
	if e, more := putting(2000)(w.x); e != api.ErrGone || more {
		t.Error(e, more)
	}
	w.d.Boot(nil)
	w.open()
	w.alike()
}

// P12.2 to P12.5: transactions that are over, or none, or whose pager is dead.
func TestNoTransaction(t *testing.T) {
	asked := func(name string, x *pager.Tx, want api.Errno) {
		t.Helper()
		cases := calls(3, 334)
		cases["Put"], cases["Put of one byte"], cases["Put of 2000"] = putting(334), putting(1), putting(2000)
		for _, first := range []int{0, -1, 900} {
			cases["Get of none"] = calls(first, 1)["Get"]
			cases["Pages of none"] = calls(first, 1)["Pages"]
			cases["Drop of none"] = calls(first, 1)["Drop"]
		}
		for call, f := range cases {
			if e, more := f(x); e != want || more {
				t.Errorf("%s, %s: %d, %t", name, call, e, more)
			}
		}
	}
	asked("none", nil, api.ErrNil)
	asked("none that Begin made", &pager.Tx{}, api.ErrNil)
	w, _ := laid(t, 2)
	x := w.x
	x.Abort()
	asked("let go", x, api.ErrGone)
	w.begin()
	x = w.x
	w.is(x.Commit(), api.OK)
	asked("committed", x, api.ErrGone)
	w.begin()
	w.d.Arm(0)
	if _, _, e := w.x.Read(1); e != api.ErrOff {
		t.Fatal(e)
	}
	asked("dead", w.x, api.ErrDead)
	asked("let go ahead", x, api.ErrGone)
}

// spoil lets the sector of a page be none that is sealed, and asks that just one was.
func spoil(t *testing.T, d *disk.Disk, body string) {
	t.Helper()
	spoiled := 0
	for i := 2; i < 64; i++ {
		if s, _ := d.Read(i); strings.HasPrefix(s[2:], body) && s[1] == byte(len(body)) {
			d.Write(i, strings.Repeat("x", 256))
			spoiled++
		}
	}
	if spoiled != 1 {
		t.Fatalf("%d sectors were spoiled", spoiled)
	}
}

// P12.3 to P12.5: a page whose sector does not open: ErrBroken, and nothing is done.
func TestBrokenSector(t *testing.T) {
	for pages := 1; pages <= 9; pages++ {
		n := 238*(pages-1) + 96
		for at := 2; at <= 1+pages; at++ {
			w, first := laid(t, pages)
			spoil(t, w.d, w.m.pages[at].body)
			for name, call := range calls(first, n) {
				was := w.d.Ops()
				if e, more := call(w.x); e != api.ErrBroken || more {
					t.Errorf("%s: %d, %t", name, e, more)
				}
				// The pages ahead of it are read, and it; none behind it.
				if ops := w.d.Ops() - was; ops != first-at+1 {
					t.Errorf("%s: %d operations, not %d", name, ops, first-at+1)
				}
				if l := w.x.Pages(); len(l) != 1+pages {
					t.Errorf("%s: %v", name, l)
				}
			}
		}
	}
}

// P12.5: the tenth page is not read: not where a chain is too long, and not in a ring.
func TestTenthPage(t *testing.T) {
	for _, round := range []int{0, 1, 2, 9, 10, 11} {
		w := newTwin(t, 64)
		first := 0
		if round == 0 {
			first = w.handmade(10, 96)
		} else {
			first = w.ring(11-round, round)
		}
		w.is(w.x.Commit(), api.OK)
		w.open()
		w.d.Arm(9)
		for _, call := range []string{"Pages", "Drop"} {
			was := w.d.Ops()
			e, more := calls(first, 1)[call](w.x)
			if e != api.ErrBroken || more || w.d.Ops()-was != 9 {
				t.Errorf("%s, a ring of %d: %d, %d operations", call, round, e, w.d.Ops()-was)
			}
			w.d.Arm(9)
		}
		// The text ends at the ninth page, but it names one more.
		for _, n := range []int{2000, 1905} {
			was := w.d.Ops()
			w.d.Arm(9)
			if _, e := over.Get(w.x, first, n); e != api.ErrBroken || w.d.Ops()-was > 9 {
				t.Errorf("Get of %d: %d, %d operations", n, e, w.d.Ops()-was)
			}
		}
	}
}

// P12.3: what is behind a page that is broken is not read, and neither is what is behind the last page of a text.
func TestGetReads(t *testing.T) {
	w, first := laid(t, 9)
	for n := 1; n <= 2000; n += 17 {
		was := w.d.Ops()
		_, e := over.Get(w.x, first, n)
		want := 1
		switch {
		case n == 2000:
			want = 9
		case n > 238:
			// Each page that is full is as it must be, as long as more is to come.
			want = (n + 237) / 238
		}
		if ops := w.d.Ops() - was; ops != want || e == api.OK {
			t.Errorf("Get of %d: %d, %d operations, not %d", n, e, ops, want)
		}
	}
}

// P12.4: the pages of what is dropped are free behind the commit, and not ahead of it.
func TestDropFrees(t *testing.T) {
	for pages := 1; pages <= 9; pages++ {
		w, first := laid(t, pages)
		left := w.p.Left()
		w.drop(first)
		w.alsoLeft()
		w.is(w.x.Commit(), api.OK)
		if w.p.Left() != left+pages {
			t.Errorf("%d are left, not %d", w.p.Left(), left+pages)
		}
		w.open()
		w.alike()
		w.tries(first)
	}
}

// P12.4: an Abort lets what was dropped be there again.
func TestDropAbort(t *testing.T) {
	w, first := laid(t, 9)
	if e := over.Drop(w.x, first); e != api.OK {
		t.Fatal(e)
	}
	if s, e := over.Get(w.x, first, 2000); s != "" || e != api.ErrBroken {
		t.Error(s, e)
	}
	w.x.Abort()
	w.begin()
	w.alike()
	w.all(first)
}
