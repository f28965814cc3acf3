package tree_test

import (
	"maps"
	"strings"
	"testing"

	"foyer/api"
	"foyer/disk"
	"foyer/pager"
	"foyer/tree"
)

// laid is a store with a tree of some levels that was committed, opened anew, in a transaction.
func laid(t *testing.T, sectors int) *twin {
	t.Helper()
	w := newTwin(t, sectors)
	w.other(9, "ahead")
	for i, key := range row(24, 40) {
		n := i * 3 % 41
		if i%8 == 5 {
			n = 300 + 100*i
		}
		root, e := tree.Put(w.x, w.root, key, text(min(n, 2000)))
		w.is(e, api.OK)
		w.root, w.pairs[key] = root, text(min(n, 2000))
	}
	if w.deep() != 3 {
		t.Fatal(w.deep())
	}
	w.is(w.x.Commit(), api.OK)
	w.open()
	return w
}

// call is something that is asked of a transaction: its error, and whether it answers something beside it.
type call func(x *pager.Tx, root int) (api.Errno, bool)

// getting, putting and dropping are calls of a key.
func getting(key string) call {
	return func(x *pager.Tx, root int) (api.Errno, bool) {
		value, is, e := tree.Get(x, root, key)
		return e, value != "" || is
	}
}

func putting(key, value string) call {
	return func(x *pager.Tx, root int) (api.Errno, bool) {
		now, e := tree.Put(x, root, key, value)
		return e, now != 0
	}
}

func dropping(key string) call {
	return func(x *pager.Tx, root int) (api.Errno, bool) {
		now, had, e := tree.Drop(x, root, key)
		return e, now != 0 || had
	}
}

// all and checking are the calls of no key.
func all(x *pager.Tx, root int) (api.Errno, bool) {
	l, e := tree.All(x, root)
	return e, len(l) != 0
}

func checking(x *pager.Tx, root int) (api.Errno, bool) {
	l, e := tree.Check(x, root)
	return e, len(l) != 0
}

// calls are calls of all sorts, for the tree of laid.
func calls() map[string]call {
	keys := row(24, 40)
	m := map[string]call{
		"All":                        all,
		"Check":                      checking,
		"Get of a short one":         getting(keys[3]),
		"Get of a longer one":        getting(keys[5]),
		"Get of none":                getting("none"),
		"Put of a new one":           putting("new", "x"),
		"Put of a new longer one":    putting("new", text(2000)),
		"Put of one that is there":   putting(keys[3], text(40)),
		"Put of a longer one":        putting(keys[5], "short"),
		"Put of a longer one, again": putting(keys[13], text(999)),
	}
	for _, i := range []int{0, 3, 5, 11, 12, 13, 21, 23} {
		m["Drop of "+keys[i]] = dropping(keys[i])
	}
	return m
}

// untouched asks that the tree is as it was committed, in a new transaction.
func (w *twin) untouched(root int) {
	w.Helper()
	w.root = root
	w.whole()
	w.finds()
}

// P13.3, R2: the power goes at each operation of each call: ErrOff, and nothing beside; then the pager is dead, and behind a boot all is as it was.
func TestPowerGoes(t *testing.T) {
	for name, f := range calls() {
		for at := 0; ; at++ {
			w := laid(t, 256)
			w.d.Arm(at)
			e, more := f(w.x, w.root)
			if e == api.OK {
				if at < 3 {
					t.Errorf("%s: %d operations", name, at)
				}
				break
			}
			if e != api.ErrOff || more {
				t.Fatalf("%s, off at %d: %d, %t", name, at, e, more)
			}
			for again, f := range calls() {
				if e, more := f(w.x, w.root); e != api.ErrDead || more {
					t.Fatalf("%s behind %s: %d, %t", again, name, e, more)
				}
			}
			w.d.Boot(nil)
			w.open()
			w.untouched(w.root)
		}
	}
}

// P13.3: the power goes at each operation of a Commit: the tree is the one before, or the one behind, whole.
func TestCommitPower(t *testing.T) {
	for at := 0; ; at++ {
		w := laid(t, 256)
		root, pairs := w.root, maps.Clone(w.pairs)
		for i, key := range row(24, 40) {
			if i%2 == 0 {
				w.drop(key)
			} else {
				w.put(key, text(41+i))
			}
		}
		w.d.Arm(at)
		e := w.x.Commit()
		w.d.Boot([]byte(strings.Repeat("\xff", 40)))
		w.open()
		if w.p.Epoch() == 1 {
			w.root, w.pairs = root, pairs
		}
		w.untouched(w.root)
		if e == api.OK {
			break
		}
	}
}

// P13.3: behind an Abort all is as the last Commit made it.
func TestAbort(t *testing.T) {
	for _, f := range calls() {
		w := laid(t, 256)
		f(w.x, w.root)
		w.x.Abort()
		w.begin()
		w.untouched(w.root)
	}
}

// P13.3, P13.4: transactions that are over, or none, or whose pager is dead: each call of a tree that has pairs answers that.
func TestNoTransaction(t *testing.T) {
	asked := func(state string, x *pager.Tx, root int, want api.Errno) {
		t.Helper()
		for name, f := range calls() {
			if e, more := f(x, root); e != want || more {
				t.Errorf("%s, %s: %d, %t, not %d", state, name, e, more, want)
			}
		}
	}
	w := laid(t, 256)
	for _, root := range append([]int{w.root}, noPages...) {
		asked("none", nil, root, api.ErrNil)
		asked("none that Begin made", &pager.Tx{}, root, api.ErrNil)
	}
	x := w.x
	x.Abort()
	asked("let go", x, w.root, api.ErrGone)
	w.begin()
	asked("let go, behind another one", x, w.root, api.ErrGone)
	x = w.x
	w.is(x.Commit(), api.OK)
	asked("committed", x, w.root, api.ErrGone)
	w.begin()
	w.d.Arm(0)
	w.x.Read(1)
	asked("dead", w.x, w.root, api.ErrDead)
	// To put the first pair a page is made, which is refused likewise.
	for _, value := range []string{"x", text(300)} {
		for want, x := range map[api.Errno]*pager.Tx{api.ErrGone: x, api.ErrDead: w.x} {
			if e, more := putting("k", value)(x, 0); e != want || more {
				t.Errorf("%d, %t, not %d", e, more, want)
			}
		}
	}
}

// P13.3: on a small disk pairs are put, or changed, or dropped, till there is no room: ErrSpace, and behind an Abort all is as the last Commit made it.
func TestSpace(t *testing.T) {
	for _, n := range []int{0, 40, 41, 238, 300, 2000} {
		for sectors := 64; sectors < 72; sectors++ {
			w := newTwin(t, sectors)
			w.put("first", text(n))
			w.commit()
			root, pairs := w.root, maps.Clone(w.pairs)
			for i := 0; ; i++ {
				key := row(700, 40)[i]
				now, e := tree.Put(w.x, w.root, key, text(n))
				if e == api.OK {
					w.root, w.pairs[key] = now, text(n)
					continue
				}
				if now != 0 || e != api.ErrSpace {
					t.Fatalf("%d bytes: %d, %d", n, now, e)
				}
				break
			}
			w.x.Abort()
			w.begin()
			w.pairs = pairs
			w.untouched(root)
		}
	}
}

// fill lets others have all sectors but some.
func (w *twin) fill(left int) {
	w.Helper()
	var l []int
	for {
		at, e := w.x.New(9, "fills")
		if e != api.OK {
			break
		}
		l = append(l, at)
	}
	if len(l) < left {
		w.Fatalf("%d are left", len(l))
	}
	for i, at := range l {
		if i < left {
			w.is(w.x.Drop(at), api.OK)
		} else {
			w.others[at] = page{9, "fills"}
		}
	}
}

// P13.3: a Put that parts no node writes its leaf alone, and a Drop likewise; where there is no sector for that, both are ErrSpace.
func TestSpaceTight(t *testing.T) {
	keys := row(24, 40)
	for name, f := range map[string]call{"Put": putting(keys[3], text(9)), "Put of a longer one": putting(keys[5], text(10)), "Drop": dropping(keys[3]), "Drop of a longer one": dropping(keys[13])} {
		w := laid(t, 256)
		w.fill(0)
		if e, more := f(w.x, w.root); e != api.ErrSpace || more {
			t.Errorf("%s: %d, %t", name, e, more)
		}
		w.x.Abort()
		w.begin()
		w.fill(3)
		if e, _ := f(w.x, w.root); e != api.OK {
			t.Errorf("%s: %d", name, e)
		}
	}
	w := laid(t, 256)
	w.fill(1)
	w.put(keys[3], text(8))
	w.put(keys[3], text(9))
	// Nothing is written for a key that is not there.
	w.fill(0)
	w.drop("none")
	w.drop(keys[2] + "+")
	w.finds()
}

// P13.3: the same with each number of sectors that are left: OK, with a tree that stands, or ErrSpace.
func TestSpaceEach(t *testing.T) {
	keys := row(24, 40)
	for _, order := range orders(24) {
		for left := range 12 {
			w := laid(t, 256)
			root, pairs := w.root, maps.Clone(w.pairs)
			w.fill(left)
			others := w.others
			for _, i := range order {
				now, had, e := tree.Drop(w.x, w.root, keys[i])
				if e == api.ErrSpace && now == 0 && !had {
					break
				}
				w.is(e, api.OK)
				w.root = now
				delete(w.pairs, keys[i])
				w.whole()
			}
			w.x.Abort()
			w.begin()
			w.pairs = pairs
			for at := range others {
				if at != 1 {
					delete(w.others, at)
				}
			}
			w.untouched(root)
		}
	}
}

// P13.3: the table has no more page.
func TestPagesFull(t *testing.T) {
	w := newTwin(t, 1024)
	w.put("k", "x")
	w.put("l", text(40))
	for len(w.others) < 958 {
		w.other(9, "")
	}
	for _, n := range []int{239, 2000} {
		if e, more := putting("m", text(n))(w.x, w.root); e != api.ErrFull || more {
			t.Errorf("%d bytes: %d, %t", n, e, more)
		}
	}
	w.put("m", text(238))
	if e, more := putting("n", text(41))(w.x, w.root); e != api.ErrFull || more {
		t.Errorf("%d, %t", e, more)
	}
}

// spoil lets the sector of a page be none that is sealed.
func (w *twin) spoil(at int) {
	w.Helper()
	_, body, e := w.x.Read(at)
	w.is(e, api.OK)
	spoiled := 0
	for i := 2; i < w.d.Sectors(); i++ {
		if s, _ := w.d.Read(i); len(body) > 0 && s[1] == byte(len(body)) && strings.HasPrefix(s[2:], body) {
			w.d.Write(i, strings.Repeat("x", 256))
			spoiled++
		}
	}
	if spoiled != 1 {
		w.Fatalf("%d sectors were spoiled", spoiled)
	}
}

// P13.1 to P13.4: a page of the tree whose sector does not open: ErrBroken, where it is come to.
func TestBrokenSector(t *testing.T) {
	pages, e := tree.Check(laid(t, 256).x, laid(t, 256).root)
	if e != api.OK {
		t.Fatal(e)
	}
	for _, at := range pages {
		met := 0
		for name, f := range calls() {
			w := laid(t, 256)
			w.spoil(at)
			e, more := f(w.x, w.root)
			if e != api.OK && (e != api.ErrBroken || more) {
				t.Errorf("%s: %d, %t", name, e, more)
			}
			if e == api.ErrBroken {
				met++
			} else if name == "All" || name == "Check" || at == w.root {
				t.Errorf("%s, page %d: %d", name, at, e)
			}
		}
		if met < 2 {
			t.Errorf("page %d was come to by %d calls", at, met)
		}
	}
}

// P13.3: a disk that was handed over anew has no tree.
func TestFreshDisk(t *testing.T) {
	w := laid(t, 64)
	p, _ := pager.Open(disk.New(64))
	x, _ := p.Begin()
	for name, f := range calls() {
		if e, more := f(x, w.root); e != api.ErrBroken || more {
			t.Errorf("%s: %d, %t", name, e, more)
		}
	}
}
