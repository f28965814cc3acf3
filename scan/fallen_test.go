package scan_test

import (
	"math/rand"
	"slices"
	"testing"

	"foyer/api"
	"foyer/scan"
	"foyer/tree"
)

// fallen are trees that do not stand: each one's root.
func fallen() map[string]func(w *store) int {
	return map[string]func(w *store) int{
		"a root of another kind":     func(w *store) int { return w.page(2, "\x01\x01\x01a\x01x") },
		"a root that is no node's":   func(w *store) int { return w.page(1, "\x01\x01\x01a\x01") },
		"a root that stands nowhere": func(w *store) int { return 7 },
		"a root that is no page":     func(w *store) int { return 961 },
		"a root below 0":             func(w *store) int { return -1 },
		"a Kid of another kind": func(w *store) int {
			return w.inner([]int{w.leaf("a"), w.page(3, "\x01\x01\x01m\x01x")}, "m")
		},
		"a Kid that is no node's": func(w *store) int {
			return w.inner([]int{w.page(1, "\x01\x01\x01a\x01"), w.leaf("m")}, "m")
		},
		"a Kid that stands nowhere, first": func(w *store) int { return w.inner([]int{900, w.leaf("m")}, "m") },
		"a Kid that stands nowhere, last":  func(w *store) int { return w.inner([]int{w.leaf("a"), 960}, "m") },
		"a page that is reached twice": func(w *store) int {
			a := w.leaf("a")
			return w.inner([]int{a, a}, "m")
		},
		"a page that is reached twice, from two pages": func(w *store) int {
			a := w.leaf("c")
			return w.inner([]int{w.inner([]int{w.leaf("a"), a}, "b"), w.inner([]int{a, w.leaf("n")}, "m")}, "d")
		},
		"many pages, each of which is reached twice from the one above": func(w *store) int {
			at := w.leaf("m")
			for range 200 {
				at = w.inner([]int{at, at}, "m")
			}
			return at
		},
		"a leaf that is too high": func(w *store) int {
			return w.inner([]int{w.leaf("a"), w.inner([]int{w.leaf("m"), w.leaf("r")}, "q")}, "m")
		},
		"a leaf that is too deep": func(w *store) int {
			return w.inner([]int{w.inner([]int{w.leaf("a"), w.leaf("c")}, "b"), w.leaf("n")}, "m")
		},
		"keys of a leaf that do not rise":      func(w *store) int { return w.page(1, "\x01\x02\x01b\x01x\x01a\x01x") },
		"leaves that are taken for another":    func(w *store) int { return w.inner([]int{w.leaf("n"), w.leaf("a")}, "m") },
		"a key that is the one behind":         func(w *store) int { return w.inner([]int{w.leaf("a", "m"), w.leaf("n")}, "m") },
		"a key above the one behind":           func(w *store) int { return w.inner([]int{w.leaf("a", "z"), w.leaf("n")}, "m") },
		"a key below the one ahead":            func(w *store) int { return w.inner([]int{w.leaf("a"), w.leaf("b", "z")}, "m") },
		"no leaf with a key of its Kid's span": func(w *store) int { return w.inner([]int{w.leaf("y"), w.leaf("z"), w.leaf("a")}, "c", "m") },
		"a chain that stands nowhere":          func(w *store) int { return w.cells(api.Cell{Key: "a", First: 30, Long: 100}) },
		"a chain of two cells": func(w *store) int {
			c := w.chain("a", text(500))
			return w.cells(c, api.Cell{Key: "b", First: c.First, Long: c.Long})
		},
	}
}

// leadingBack are those in which a Kid leads back to a page above.
func leadingBack() map[string]func(w *store) int {
	return map[string]func(w *store) int{
		"a Kid that is the root, first": func(w *store) int {
			at := w.later()
			w.told(at, api.Node{Keys: []string{"m"}, Kids: []int{at, w.leaf("m")}})
			return at
		},
		"a Kid that is the root, last": func(w *store) int {
			at := w.later()
			w.told(at, api.Node{Keys: []string{"m"}, Kids: []int{w.leaf("a"), at}})
			return at
		},
		"all Kids are the root": func(w *store) int {
			at := w.later()
			w.told(at, api.Node{Keys: []string{"b", "m"}, Kids: []int{at, at, at}})
			return at
		},
		"a Kid that leads back": func(w *store) int {
			at := w.later()
			w.told(at, api.Node{Keys: []string{"m"}, Kids: []int{w.leaf("a"), w.inner([]int{at, w.leaf("z")}, "q")}})
			return at
		},
		"a Kid that leads back, beside a leaf": func(w *store) int {
			at := w.later()
			w.told(at, api.Node{Keys: []string{"m"}, Kids: []int{w.inner([]int{w.leaf("a"), at}, "c"), w.leaf("z")}})
			return at
		},
		"two pages that lead to each other": func(w *store) int {
			at, two := w.later(), w.later()
			w.told(at, api.Node{Keys: []string{"m"}, Kids: []int{two, two}})
			w.told(two, api.Node{Keys: []string{"m"}, Kids: []int{at, at}})
			return at
		},
	}
}

// asked are keys that are asked for in trees that do not stand, and ends those up to which.
var (
	asked = []string{"", "a", "b", "c", "k", "m", "n", "z", text(41)}
	upTo  = []string{"", "c", "n"}
)

// answers asks all calls of a tree that may not stand: each one answers something, nothing beside an error, and the same again; no page is changed.
func (w *store) answers(name string, root int) {
	w.Helper()
	was := w.x.Pages()
	for _, key := range asked {
		for i, to := range upTo {
			for call, f := range calls(key, to) {
				if i > 0 && call != "Range" && call != "Count" {
					continue
				}
				e, more := f(w.x, root)
				if e != api.OK && (e != api.ErrBroken || more) {
					w.Fatalf("%s, %s of %q, %q: %d, %t", name, call, key, to, e, more)
				}
				if again, moreAgain := f(w.x, root); again != e || moreAgain != more {
					w.Fatalf("%s, %s of %q, %q: %d, %t, and then %d, %t", name, call, key, to, e, more, again, moreAgain)
				}
			}
			w.spanWithin(root, key, to)
		}
		w.oneWithin(root, key)
	}
	if !slices.Equal(was, w.x.Pages()) {
		w.Errorf("%s: pages %v, not %v", name, w.x.Pages(), was)
	}
}

// oneWithin asks that the pair that is answered is one that was asked for, also in a tree that does not stand.
func (w *store) oneWithin(root int, key string) {
	w.Helper()
	if pair, is, _ := scan.At(w.x, root, key); is && pair.Key < key {
		w.Errorf("At of %q: %q", key, pair)
	}
	if pair, is, _ := scan.After(w.x, root, key); is && pair.Key <= key {
		w.Errorf("After of %q: %q", key, pair)
	}
	if pair, is, _ := scan.Before(w.x, root, key); is && pair.Key >= key {
		w.Errorf("Before of %q: %q", key, pair)
	}
}

// spanWithin asks that the pairs of a span are, likewise, and as many as are counted.
func (w *store) spanWithin(root int, from, to string) {
	w.Helper()
	l, e := scan.Range(w.x, root, from, to, 1<<20)
	for _, pair := range l {
		if pair.Key < from || to != "" && pair.Key >= to {
			w.Errorf("Range from %q to %q: %q", from, to, pair)
		}
	}
	if n, f := scan.Count(w.x, root, from, to); e == api.OK && (n != len(l) || f != api.OK) {
		w.Errorf("Count from %q to %q: %d, %d, not %d", from, to, n, f, len(l))
	}
}

// P14.3: of trees made by hand that do not stand all calls answer something, and end.
func TestFallen(t *testing.T) {
	for name, build := range fallen() {
		w := newStore(t, 1024)
		root := build(w)
		if _, e := tree.Check(w.x, root); e != api.ErrBroken {
			t.Errorf("%s: %d", name, e)
		}
		w.answers(name, root)
	}
}

// P14.3: a Kid that leads back to a page above: ErrBroken, where the way through the tree goes there.
func TestLeadingBack(t *testing.T) {
	for name, build := range leadingBack() {
		w := newStore(t, 1024)
		root := build(w)
		w.answers(name, root)
		w.laid()
		was := w.d.Ops()
		if n, e := scan.Count(w.x, root, "", ""); n != 0 || e != api.ErrBroken || w.d.Ops()-was != api.MaxPage {
			t.Errorf("%s: %d, %d, %d operations", name, n, e, w.d.Ops()-was)
		}
	}
	w := newStore(t, 1024)
	first, last, all := leadingBack()["a Kid that is the root, first"](w), leadingBack()["a Kid that is the root, last"](w), leadingBack()["all Kids are the root"](w)
	w.laid()
	w.refused(w.x, all, "", "", api.ErrBroken)
	w.refused(w.x, all, "c", "d", api.ErrBroken)
	for _, g := range []struct {
		name string
		root int
		key  string
		want api.Errno
	}{
		{"At", first, "a", api.ErrBroken}, {"At", first, "m", api.OK}, {"At", last, "a", api.OK}, {"At", last, "b", api.ErrBroken}, {"At", last, "m", api.ErrBroken},
		{"After", first, "a", api.ErrBroken}, {"After", first, "l", api.ErrBroken}, {"After", last, "", api.OK}, {"After", last, "a", api.ErrBroken}, {"After", last, "m", api.ErrBroken},
		{"Before", first, "m", api.ErrBroken}, {"Before", first, "n", api.OK}, {"Before", last, "m", api.OK}, {"Before", last, "n", api.ErrBroken},
		{"Last", first, "", api.OK}, {"Last", last, "", api.ErrBroken},
	} {
		if e, more := calls(g.key, "")[g.name](w.x, g.root); e != g.want || more != (e == api.OK) {
			t.Errorf("%s of %q, %d: %d, %t", g.name, g.key, g.root, e, more)
		}
	}
}

// letters are so many keys of one byte, from a letter on.
func letters(from byte, n int) []string {
	var l []string
	for i := range n {
		l = append(l, string([]byte{from + byte(i)}))
	}
	return l
}

// repeated is a node that leads to one page over and over, by keys from a letter on.
func (w *store) repeated(page, times int, from byte) int {
	w.Helper()
	return w.inner(slices.Repeat([]int{page}, times), letters(from, times-1)...)
}

// thousand is a tree of which 960 pages are read, or one more, as most of them are reached over and over: 7 Kids, 8 of each, 16 leaves of each.
func (w *store) thousand(leaf int, from byte, more int) int {
	w.Helper()
	low := w.repeated(w.repeated(leaf, 16, from), 8, from)
	kids := slices.Repeat([]int{low}, 7)
	for range more {
		kids = slices.Insert(kids, 3, leaf)
	}
	return w.inner(kids, letters(from, len(kids)-1)...)
}

// P14.3: 960 pages are read in one call, also if they are the same ones; ErrBroken where the 961st would be.
func TestMostPages(t *testing.T) {
	const leaves = 7 * 8 * 16
	w := newStore(t, 64)
	leaf, high := w.leaf("a", "b"), w.leaf("y", "z")
	// Each leaf has keys below those asked for, and the keys above are higher.
	just, more := w.thousand(leaf, 'd', 0), w.thousand(leaf, 'd', 1)
	justHigh, moreHigh := w.thousand(high, 'd', 0), w.thousand(high, 'd', 1)
	w.laid()
	was := w.d.Ops()
	if n, e := scan.Count(w.x, just, "", ""); n != 2*leaves || e != api.OK {
		t.Error(n, e)
	}
	if ops := w.d.Ops() - was; ops != api.MaxPage {
		t.Errorf("%d operations", ops)
	}
	if l, e := scan.Range(w.x, just, "b", "", 2000); len(l) != leaves || e != api.OK {
		t.Error(len(l), e)
	}
	for _, g := range []struct {
		name       string
		just, more int
		key        string
	}{{"At", just, more, "c"}, {"After", just, more, "b"}, {"After", just, more, "c"}, {"Before", justHigh, moreHigh, "x"}, {"Before", justHigh, moreHigh, "y"}, {"Range", just, more, "c"}, {"Count", just, more, "c"}} {
		was := w.d.Ops()
		if e, is := calls(g.key, "")[g.name](w.x, g.just); is || e != api.OK || w.d.Ops()-was != api.MaxPage {
			t.Errorf("%s of %q: %d, %t, %d operations", g.name, g.key, e, is, w.d.Ops()-was)
		}
		was = w.d.Ops()
		if e, is := calls(g.key, "")[g.name](w.x, g.more); is || e != api.ErrBroken || w.d.Ops()-was != api.MaxPage {
			t.Errorf("%s of %q, one more: %d, %t, %d operations", g.name, g.key, e, is, w.d.Ops()-was)
		}
	}
	if n, e := scan.Count(w.x, more, "", ""); n != 0 || e != api.ErrBroken {
		t.Error(n, e)
	}
	if l, e := scan.Range(w.x, more, "", "", 5000); len(l) != 0 || e != api.ErrBroken {
		t.Error(len(l), e)
	}
	// It is told anew in each call, so one behind the other is no matter.
	for range 3 {
		if l, e := scan.Range(w.x, more, "", "", 1000); len(l) != 1000 || e != api.OK {
			t.Error(len(l), e)
		}
	}
}

// P14.3: drawn pages, that lead to each other: all calls answer something, and end; where they make a tree that stands, they answer its pairs.
func TestDrawnPages(t *testing.T) {
	stood := 0
	for seed := range 60 {
		r := rand.New(rand.NewSource(int64(seed)))
		w := newStore(t, 64)
		pages := 1 + r.Intn(5)
		for range pages {
			w.later()
		}
		for at := 1; at <= pages; at++ {
			w.told(at, drawnNode(r, pages))
		}
		for root := 1; root <= pages; root++ {
			if _, e := tree.Check(w.x, root); e == api.OK {
				stood++
				w.rooted(root).all()
			}
		}
		w.answers("drawn pages", 1+r.Intn(pages))
	}
	if stood < 20 {
		t.Errorf("%d stood", stood)
	}
}

// drawnNode draws a node of short keys, whose Kids are pages of some.
func drawnNode(r *rand.Rand, pages int) api.Node {
	n := api.Node{Leaf: r.Intn(2) == 0}
	from := r.Intn(8)
	for _, c := range "abcdefgh"[from:min(8, from+1+r.Intn(3))] {
		if n.Leaf {
			n.Cells = append(n.Cells, api.Cell{Key: string(c), Value: text(r.Intn(41))})
		} else {
			n.Keys = append(n.Keys, string(c))
			n.Kids = append(n.Kids, 1+r.Intn(pages+1))
		}
	}
	if !n.Leaf {
		n.Kids = append(n.Kids, 1+r.Intn(pages))
	}
	return n
}

// P14.3: trees that stood, of which a page was changed: all calls answer something, and end.
func TestSpoiled(t *testing.T) {
	fell := 0
	for seed := range 150 {
		r := rand.New(rand.NewSource(int64(seed)))
		w := newStore(t, 128)
		w.puts(letters('a', 26), func(int) string { return text(r.Intn(60)) })
		w.spoil(r)
		if _, e := tree.Check(w.x, w.root); e != api.OK {
			fell++
		}
		w.answers("a changed page", w.root)
	}
	if fell < 50 {
		t.Errorf("%d fell", fell)
	}
}

// spoil changes something of a page of the tree.
func (w *store) spoil(r *rand.Rand) {
	w.Helper()
	pages, e := tree.Check(w.x, w.root)
	w.is(e, api.OK)
	at := pages[r.Intn(len(pages))]
	kind, body, e := w.x.Read(at)
	w.is(e, api.OK)
	switch r.Intn(3) {
	case 0:
		w.is(w.x.Drop(at), api.OK)
	case 1:
		_, body, _ = w.x.Read(pages[r.Intn(len(pages))])
		w.is(w.x.Write(at, kind, body), api.OK)
	default:
		b := []byte(body)
		b[r.Intn(len(b))] += byte(1 + r.Intn(3))
		w.is(w.x.Write(at, kind, string(b)), api.OK)
	}
}
