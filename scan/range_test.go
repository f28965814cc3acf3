package scan_test

import (
	"slices"
	"testing"

	"foyer/api"
	"foyer/node"
	"foyer/pager"
	"foyer/scan"
	"foyer/tree"
)

// dropped drops a pair that is there.
func (w *store) dropped(key string) {
	w.Helper()
	root, had, e := tree.Drop(w.x, w.root, key)
	w.is(e, api.OK)
	if !had {
		w.Fatalf("there was no %q", key)
	}
	w.root = root
	w.has = slices.DeleteFunc(slices.Clone(w.has), func(p api.Pair) bool { return p.Key == key })
}

// hasNone tells whether one of keys stands in a node that is no leaf, and is no pair's.
func (w *store) hasNone(keys []string) bool {
	w.Helper()
	pages, e := tree.Check(w.x, w.root)
	w.is(e, api.OK)
	for _, at := range pages {
		n, _ := tree.Page(w.x, at)
		for _, key := range n.Keys {
			if pair, _ := w.has.at(key); slices.Contains(keys, key) && pair.Key != key {
				return true
			}
		}
	}
	return false
}

// P14.2: a most below 0, whatever else there is: nothing is read.
func TestMostBelow(t *testing.T) {
	w := newStore(t, 64).puts([]string{"b", "d", "f"}, shorter).laid()
	was := w.d.Ops()
	for _, most := range []int{-1, -2, -1 << 40, -1 << 63} {
		for _, root := range []int{0, w.root, 700, -1} {
			for _, x := range []*pager.Tx{w.x, nil, {}} {
				for _, to := range []string{"", "b", "z"} {
					if l, e := scan.Range(x, root, "b", to, most); len(l) != 0 || e != api.ErrArg {
						t.Errorf("at most %d, of %d: %v, %d", most, root, l, e)
					}
				}
			}
		}
	}
	if w.d.Ops() != was {
		t.Errorf("%d operations", w.d.Ops()-was)
	}
	w.x.Abort()
	if l, e := scan.Range(w.x, w.root, "b", "", -1); len(l) != 0 || e != api.ErrArg {
		t.Error(l, e)
	}
}

// P14.2: spans whose second text is the first one, or below it, are empty, in trees of all sorts.
func TestEmptySpans(t *testing.T) {
	for name, build := range byHand() {
		w := newStore(t, 128)
		w.rooted(build(w))
		keys := w.beside()
		for i, to := range keys {
			for _, from := range keys[i:] {
				if to == "" {
					continue
				}
				for _, most := range []int{0, 1, 9} {
					if l, e := scan.Range(w.x, w.root, from, to, most); len(l) != 0 || e != api.OK {
						t.Errorf("%s, from %q to %q: %q, %d", name, from, to, l, e)
					}
				}
				if n, e := scan.Count(w.x, w.root, from, to); n != 0 || e != api.OK {
					t.Errorf("%s, from %q to %q: %d, %d", name, from, to, n, e)
				}
			}
		}
	}
}

// P14.2: the empty text as the second one: all pairs from the first one on; as both: all.
func TestOpenSpans(t *testing.T) {
	w := newStore(t, 128)
	w.rooted(byHand()["leaves of one pair, three levels"](w))
	if l, e := scan.Range(w.x, w.root, "", "", 100); !slices.Equal(l, w.has) || len(l) != 7 || e != api.OK {
		t.Errorf("%q, %d", l, e)
	}
	for from, want := range map[string]int{"": 7, "b": 7, "b\x00": 6, "k": 4, "l": 3, "w": 1, "w\x00": 0, "\xff": 0} {
		if n, e := scan.Count(w.x, w.root, from, ""); n != want || e != api.OK {
			t.Errorf("from %q: %d, %d", from, n, e)
		}
		if l, e := scan.Range(w.x, w.root, from, "", 100); !slices.Equal(l, w.has[7-want:]) || e != api.OK {
			t.Errorf("from %q: %q, %d", from, l, e)
		}
	}
}

// P14.2: Count reads no value: each page of a node is read once, and no other one.
func TestCountReadsNoValue(t *testing.T) {
	var keys []string
	for i := range 40 {
		keys = append(keys, "value "+string([]byte{byte('0' + i)}))
	}
	w := newStore(t, 1024).puts(keys, func(int) string { return text(600) }).laid()
	nodes := 0
	for _, b := range w.bodies() {
		if b.kind == tree.Kind {
			nodes++
		}
	}
	was := w.d.Ops()
	if n, e := scan.Count(w.x, w.root, "", ""); n != 40 || e != api.OK || w.d.Ops()-was != nodes {
		t.Errorf("%d, %d, %d operations, not %d", n, e, w.d.Ops()-was, nodes)
	}
}

// P14.2, P14.3: longer values that are broken, or stand nowhere: the pairs are counted; Range answers Value's error, and no pair, if it comes to one.
func TestCountOfBroken(t *testing.T) {
	for name, spoil := range map[string]func(w *store, c api.Cell) api.Cell{
		"a chain whose last page stands nowhere": func(w *store, c api.Cell) api.Cell {
			_, body, e := w.x.Read(c.First)
			w.is(e, api.OK)
			w.is(w.x.Drop(int(body[0])<<8+int(body[1])), api.OK)
			return c
		},
		"a chain that stands nowhere":  func(w *store, c api.Cell) api.Cell { w.is(w.x.Drop(c.First), api.OK); return c },
		"no chain":                     func(w *store, c api.Cell) api.Cell { return api.Cell{Key: c.Key, First: 900, Long: 300} },
		"a chain of another kind":      func(w *store, c api.Cell) api.Cell { w.is(w.x.Write(c.First, 1, "x"), api.OK); return c },
		"a chain of a shorter value":   func(w *store, c api.Cell) api.Cell { c.Long--; return c },
		"a chain of a longer value":    func(w *store, c api.Cell) api.Cell { c.Long++; return c },
		"a chain that is another node": func(w *store, c api.Cell) api.Cell { c.First = w.leaf("x"); return c },
	} {
		w := newStore(t, 64)
		bad := spoil(w, w.chain("m", text(300)))
		w.root = w.inner([]int{w.leaf("b", "d"), w.cells(api.Cell{Key: "h"}, bad, api.Cell{Key: "p"})}, "g")
		_, want := tree.Value(w.x, bad)
		if want == api.OK {
			t.Fatal(name)
		}
		for span, n := range map[[2]string]int{{"", ""}: 5, {"m", "n"}: 1, {"c", ""}: 4, {"", "p"}: 4, {"n", ""}: 1} {
			if got, e := scan.Count(w.x, w.root, span[0], span[1]); got != n || e != api.OK {
				t.Errorf("%s, Count of %q: %d, %d", name, span, got, e)
			}
		}
		w.met(name, want)
	}
}

// met asks the calls of the tree of TestCountOfBroken: those that come to the broken value answer its error, and the others what they must.
func (w *store) met(name string, want api.Errno) {
	w.Helper()
	for _, g := range []struct {
		from, to string
		most     int
		e        api.Errno
		n        int
	}{
		{"", "", 9, want, 0}, {"", "", 4, want, 0}, {"", "", 3, api.OK, 3}, {"", "", 0, api.OK, 0}, {"m", "", 9, want, 0}, {"m", "", 1, want, 0}, {"m", "", 0, api.OK, 0},
		{"", "m", 9, api.OK, 3}, {"m\x00", "", 9, api.OK, 1}, {"", "m\x00", 9, want, 0},
	} {
		if l, e := scan.Range(w.x, w.root, g.from, g.to, g.most); len(l) != g.n || e != g.e {
			w.Errorf("%s, from %q to %q, at most %d: %q, %d", name, g.from, g.to, g.most, l, e)
		}
	}
	zero := api.Pair{}
	if pair, is, e := scan.At(w.x, w.root, "i"); pair != zero || is || e != want {
		w.Errorf("%s, At: %q, %t, %d", name, pair, is, e)
	}
	if pair, is, e := scan.After(w.x, w.root, "h"); pair != zero || is || e != want {
		w.Errorf("%s, After: %q, %t, %d", name, pair, is, e)
	}
	if pair, is, e := scan.Before(w.x, w.root, "p"); pair != zero || is || e != want {
		w.Errorf("%s, Before: %q, %t, %d", name, pair, is, e)
	}
	if pair, is, e := scan.Last(w.x, w.root); pair != (api.Pair{Key: "p"}) || !is || e != api.OK {
		w.Errorf("%s, Last: %q, %t, %d", name, pair, is, e)
	}
	w.is(w.x.Write(w.root, tree.Kind, w.without(w.root)), api.OK)
	if pair, is, e := scan.Last(w.x, w.root); pair != (api.Pair{Key: "d", Value: "of d"}) || !is || e != api.OK {
		w.Errorf("%s, Last: %q, %t, %d", name, pair, is, e)
	}
}

// without tells the body of a node of which only the first Kid counts.
func (w *store) without(at int) string {
	w.Helper()
	n, e := tree.Page(w.x, at)
	w.is(e, api.OK)
	first, e := tree.Page(w.x, n.Kids[0])
	w.is(e, api.OK)
	body, e := node.Put(first)
	w.is(e, api.OK)
	return body
}

// P14.1, P14.3: Last of a tree whose greatest pair's value is broken.
func TestLastBroken(t *testing.T) {
	w := newStore(t, 64)
	root := w.inner([]int{w.leaf("b"), w.cells(api.Cell{Key: "m", First: 900, Long: 300})}, "m")
	if pair, is, e := scan.Last(w.x, root); pair != (api.Pair{}) || is || e != api.ErrBroken {
		t.Error(pair, is, e)
	}
}

// R5: lists that are answered are new: to change them changes no tree.
func TestOwn(t *testing.T) {
	w := newStore(t, 64).puts([]string{"b", "d", "f"}, sized)
	for range 2 {
		l, e := scan.Range(w.x, w.root, "", "", 9)
		if !slices.Equal(l, w.has) || e != api.OK {
			t.Fatal(l, e)
		}
		for i := range l {
			l[i] = api.Pair{Key: "changed"}
		}
	}
	w.all()
}
