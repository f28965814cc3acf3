package scan_test

import (
	"strings"
	"testing"

	"foyer/api"
	"foyer/node"
	"foyer/pager"
	"foyer/scan"
	"foyer/tree"
)

// call is something that is asked of a transaction: its error, and whether it answers something beside it.
type call func(x *pager.Tx, root int) (api.Errno, bool)

// calls are all calls of the chapter, of a key, or from it up to another one.
func calls(key, to string) map[string]call {
	one := func(f func(x *pager.Tx, root int, key string) (api.Pair, bool, api.Errno)) call {
		return func(x *pager.Tx, root int) (api.Errno, bool) {
			pair, is, e := f(x, root, key)
			return e, is || pair != api.Pair{}
		}
	}
	return map[string]call{
		"At": one(scan.At), "After": one(scan.After), "Before": one(scan.Before),
		"Last": func(x *pager.Tx, root int) (api.Errno, bool) {
			pair, is, e := scan.Last(x, root)
			return e, is || pair != api.Pair{}
		},
		"Range": func(x *pager.Tx, root int) (api.Errno, bool) {
			l, e := scan.Range(x, root, key, to, 1000)
			return e, len(l) != 0
		},
		"Count": func(x *pager.Tx, root int) (api.Errno, bool) {
			n, e := scan.Count(x, root, key, to)
			return e, n != 0
		},
	}
}

// refused asks that all calls answer an error, and nothing beside it.
func (w *store) refused(x *pager.Tx, root int, key, to string, want api.Errno) {
	w.Helper()
	for name, f := range calls(key, to) {
		if e, more := f(x, root); e != want || more {
			w.Errorf("%s of %q, %q, of the root %d: %d, %t, not %d", name, key, to, root, e, more, want)
		}
	}
}

// noPages are numbers of no pages, or of none that stands; 0 is the root of the tree without pairs.
var noPages = []int{-1, -2, -960, 700, 959, 960, 961, 962, 65535, 65536, 65537, 1 << 32, 1<<32 + 1, 1<<63 - 1, -1 << 63}

// P14.3: a transaction that is none: ErrNil, also of the root 0.
func TestNil(t *testing.T) {
	w := newStore(t, 64)
	at := w.leaf("b", "d")
	for _, root := range append(noPages, 0, at) {
		for _, key := range []string{"", "b", "c", "z"} {
			w.refused(nil, root, key, "", api.ErrNil)
			w.refused(nil, root, key, "c", api.ErrNil)
			w.refused(&pager.Tx{}, root, key, "", api.ErrNil)
		}
	}
	if l, e := scan.Range(nil, 0, "", "", 0); len(l) != 0 || e != api.ErrNil {
		t.Error(l, e)
	}
}

// P14.3: a transaction that is over, and one whose pager is dead; of the root 0 no page is read.
func TestOver(t *testing.T) {
	w := newStore(t, 64)
	w.root = w.inner([]int{w.leaf("b", "d"), w.leaf("m")}, "m")
	x := w.x
	w.is(x.Commit(), api.OK)
	for _, root := range append(noPages, w.root) {
		w.refused(x, root, "b", "", api.ErrGone)
		w.refused(x, root, "b", "z", api.ErrGone)
	}
	w.begin()
	w.d.Arm(0)
	w.refused(w.x, 700, "b", "", api.ErrBroken)
	if n, e := scan.Count(w.x, w.root, "b", ""); n != 0 || e != api.ErrOff {
		t.Error(n, e)
	}
	for _, root := range append(noPages, w.root) {
		w.refused(w.x, root, "b", "", api.ErrDead)
		w.refused(x, root, "b", "", api.ErrGone)
	}
	w.refused(x, 0, "b", "", api.OK)
	w.refused(w.x, 0, "b", "", api.OK)
}

// P14.3: roots and Kids that are no node's pages: Page's answer.
func TestNoNodes(t *testing.T) {
	w := newStore(t, 64)
	is, _ := node.Put(api.Node{Leaf: true, Cells: []api.Cell{{Key: "b", Value: "x"}}})
	bad := []int{700, 960}
	for _, kind := range []int{2, 3, 254} {
		bad = append(bad, w.page(kind, is))
	}
	for _, text := range []string{"", "\x01", "\x03\x01", is + "x", is[:len(is)-1], "\x01\x02\x01b\x00\x01a\x00", "\x02\x01\x00\x00\x01m\x00\x04"} {
		bad = append(bad, w.page(tree.Kind, text))
	}
	for _, at := range bad {
		for _, key := range []string{"", "b", "c", "m", "z"} {
			w.refused(w.x, at, key, "", api.ErrBroken)
			w.refused(w.x, at, key, "zz", api.ErrBroken)
			all := w.inner([]int{at, at, at}, "c", "m")
			w.refused(w.x, all, key, "", api.ErrBroken)
			w.is(w.x.Drop(all), api.OK)
		}
		// Where only one Kid is none, what need not come there answers.
		w.root = w.inner([]int{w.leaf("b", "d"), at}, "m")
		if pair, is, e := scan.At(w.x, w.root, "c"); pair.Key != "d" || !is || e != api.OK {
			t.Error(pair, is, e)
		}
		if l, e := scan.Range(w.x, w.root, "", "m", 9); len(l) != 2 || e != api.OK {
			t.Error(l, e)
		}
		if l, e := scan.Range(w.x, w.root, "", "", 2); len(l) != 2 || e != api.OK {
			t.Error(l, e)
		}
		w.refused(w.x, w.root, "n", "", api.ErrBroken)
		w.refused(w.x, w.root, "n", "z", api.ErrBroken)
		if pair, is, e := scan.At(w.x, w.root, "e"); pair != (api.Pair{}) || is || e != api.ErrBroken {
			t.Error(pair, is, e)
		}
		if l, e := scan.Range(w.x, w.root, "", "", 3); len(l) != 0 || e != api.ErrBroken {
			t.Error(l, e)
		}
		if n, e := scan.Count(w.x, w.root, "", ""); n != 0 || e != api.ErrBroken {
			t.Error(n, e)
		}
		w.is(w.x.Drop(w.root), api.OK)
	}
}

// manyLaid is a store with a tree of some levels, with longer values, that was committed.
func manyLaid(t *testing.T) *store {
	t.Helper()
	w := newStore(t, 256)
	var keys []string
	for i := range 40 {
		keys = append(keys, strings.Repeat("k", 24)+string([]byte{byte('0' + i)}))
	}
	w.puts(keys, func(i int) string {
		if i%8 == 5 {
			return text(200 + 40*i)
		}
		return text(i)
	})
	if w.deep() != 3 {
		t.Fatal(w.deep())
	}
	return w.laid()
}

// P14.3: the power goes at each operation of each call: ErrOff, and nothing beside; then the pager is dead, and behind a boot all is as it was.
func TestPowerGoes(t *testing.T) {
	keys := manyLaid(t).has
	for _, i := range []int{5, 13, 20, 37} {
		for name := range calls("", "") {
			for at := 0; ; at++ {
				w := manyLaid(t)
				w.d.Arm(at)
				e, more := calls(keys[i].Key, "")[name](w.x, w.root)
				if e == api.OK {
					if at < 3 || !more {
						t.Errorf("%s: %d operations, %t", name, at, more)
					}
					break
				}
				if e != api.ErrOff || more {
					t.Fatalf("%s, off at %d: %d, %t", name, at, e, more)
				}
				w.refused(w.x, w.root, keys[i].Key, "", api.ErrDead)
				w.d.Boot(nil)
				w.open()
				w.finds(keys[i].Key)
				w.ranges("", "")
			}
		}
	}
}

// P14.3: sectors that do not open: ErrBroken, and the pager is not dead.
func TestSpoiltSectors(t *testing.T) {
	w := manyLaid(t)
	for i := 2; i < 256; i++ {
		w.is(w.d.Write(i, strings.Repeat("x", 256)), api.OK)
	}
	for range 2 {
		w.refused(w.x, w.root, "k", "", api.ErrBroken)
	}
}
