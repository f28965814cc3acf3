package tree_test

import (
	"math/rand"
	"slices"
	"testing"

	"foyer/api"
	"foyer/node"
	"foyer/over"
	"foyer/tree"
)

// cells makes a leaf of cells by hand.
func (w *twin) cells(cells ...api.Cell) int {
	w.Helper()
	return w.node(api.Node{Leaf: true, Cells: cells})
}

// later makes a page that is to be told later what it is.
func (w *twin) later() int {
	w.Helper()
	at, e := w.x.New(1, "later")
	w.is(e, api.OK)
	return at
}

// told tells a page what it is.
func (w *twin) told(at int, n api.Node) {
	w.Helper()
	body, e := node.Put(n)
	w.is(e, api.OK)
	w.is(w.x.Write(at, 1, body), api.OK)
}

// fallen are trees that do not stand: each one's root.
func fallen() map[string]func(w *twin) int {
	l := nodesFallen()
	for name, f := range keysFallen() {
		l[name] = f
	}
	for name, f := range valuesFallen() {
		l[name] = f
	}
	return l
}

// nodesFallen are those whose pages are not as they must be.
func nodesFallen() map[string]func(w *twin) int {
	return map[string]func(w *twin) int{
		"a root of another kind":     func(w *twin) int { return w.other(2, "\x01\x01\x01a\x01x") },
		"a root that is no node's":   func(w *twin) int { return w.other(1, "\x01\x01\x01a\x01") },
		"a root that is empty":       func(w *twin) int { return w.other(1, "") },
		"a root that stands nowhere": func(w *twin) int { return 7 },
		"a root that is no page":     func(w *twin) int { return 961 },
		"a root below 0":             func(w *twin) int { return -1 },
		"a Kid of another kind": func(w *twin) int {
			return w.inner([]int{w.leaf("a"), w.other(3, "\x01\x01\x01m\x01x")}, "m")
		},
		"a Kid that is no node's": func(w *twin) int {
			return w.inner([]int{w.other(1, "\x01\x01\x01a\x01"), w.leaf("m")}, "m")
		},
		"a Kid that stands nowhere, first": func(w *twin) int { return w.inner([]int{900, w.leaf("m")}, "m") },
		"a Kid that stands nowhere, last":  func(w *twin) int { return w.inner([]int{w.leaf("a"), 960}, "m") },
		"a page that is reached twice": func(w *twin) int {
			a := w.leaf("a")
			return w.inner([]int{a, a}, "m")
		},
		"a page that is reached twice, from two pages": func(w *twin) int {
			a := w.leaf("c")
			return w.inner([]int{w.inner([]int{w.leaf("a"), a}, "b"), w.inner([]int{a, w.leaf("n")}, "m")}, "d")
		},
		"a Kid that is the root, first": func(w *twin) int {
			at := w.later()
			w.told(at, api.Node{Keys: []string{"m"}, Kids: []int{at, w.leaf("m")}})
			return at
		},
		"a Kid that is the root, last": func(w *twin) int {
			at := w.later()
			w.told(at, api.Node{Keys: []string{"m"}, Kids: []int{w.leaf("a"), at}})
			return at
		},
		"all Kids are the root": func(w *twin) int {
			at := w.later()
			w.told(at, api.Node{Keys: []string{"b", "m"}, Kids: []int{at, at, at}})
			return at
		},
		"a Kid that leads back": func(w *twin) int {
			at := w.later()
			w.told(at, api.Node{Keys: []string{"m"}, Kids: []int{w.leaf("a"), w.inner([]int{at, w.leaf("z")}, "q")}})
			return at
		},
		"a Kid that leads back, beside a leaf": func(w *twin) int {
			at := w.later()
			w.told(at, api.Node{Keys: []string{"m"}, Kids: []int{w.inner([]int{w.leaf("a"), at}, "c"), w.leaf("z")}})
			return at
		},
		"two pages that lead to each other": func(w *twin) int {
			at, two := w.later(), w.later()
			w.told(at, api.Node{Keys: []string{"m"}, Kids: []int{two, two}})
			w.told(two, api.Node{Keys: []string{"m"}, Kids: []int{at, at}})
			return at
		},
		"many pages, each of which is reached twice from the one above": func(w *twin) int {
			at := w.leaf("m")
			for range 200 {
				at = w.inner([]int{at, at}, "m")
			}
			return at
		},
		"a leaf that is too high": func(w *twin) int {
			return w.inner([]int{w.leaf("a"), w.inner([]int{w.leaf("m"), w.leaf("r")}, "q")}, "m")
		},
		"a leaf that is too deep": func(w *twin) int {
			return w.inner([]int{w.inner([]int{w.leaf("a"), w.leaf("c")}, "b"), w.leaf("n")}, "m")
		},
		"a leaf in the midst that is too deep": func(w *twin) int {
			return w.inner([]int{w.leaf("a"), w.inner([]int{w.leaf("c"), w.leaf("d")}, "d"), w.leaf("n")}, "b", "m")
		},
		"a node that does not stand by itself": func(w *twin) int {
			return w.inner([]int{w.leaf("a"), w.other(1, "\x02\x02\x00\x01\x01r\x00\x02\x01q\x00\x03")}, "m")
		},
	}
}

// keysFallen are those whose keys are not as they must be.
func keysFallen() map[string]func(w *twin) int {
	return map[string]func(w *twin) int{
		"keys of a leaf that do not rise": func(w *twin) int { return w.other(1, "\x01\x02\x01b\x01x\x01a\x01x") },
		"keys of a leaf that are alike":   func(w *twin) int { return w.other(1, "\x01\x02\x01a\x01x\x01a\x01x") },
		"keys between that do not rise": func(w *twin) int {
			kids := []byte{0, byte(w.leaf("a")), 0, byte(w.leaf("p")), 0, byte(w.leaf("r"))}
			return w.other(1, "\x02\x02"+string(kids[:2])+"\x01q"+string(kids[2:4])+"\x01m"+string(kids[4:]))
		},
		"a key that is the one behind":         func(w *twin) int { return w.inner([]int{w.leaf("a", "m"), w.leaf("n")}, "m") },
		"a key above the one behind":           func(w *twin) int { return w.inner([]int{w.leaf("a", "z"), w.leaf("n")}, "m") },
		"a key below the one ahead":            func(w *twin) int { return w.inner([]int{w.leaf("a"), w.leaf("l", "z")}, "m") },
		"a key just below the one ahead":       func(w *twin) int { return w.inner([]int{w.leaf("a"), w.leaf("m", "z")}, "m\x00") },
		"leaves that are taken for another":    func(w *twin) int { return w.inner([]int{w.leaf("n"), w.leaf("a")}, "m") },
		"a key in the midst, above":            func(w *twin) int { return w.inner([]int{w.leaf("a"), w.leaf("c", "m"), w.leaf("n")}, "b", "m") },
		"a key in the midst, below":            func(w *twin) int { return w.inner([]int{w.leaf("a"), w.leaf("aa"), w.leaf("n")}, "b", "m") },
		"a key below what is farther above":    func(w *twin) int { return w.deeper("k", "l") },
		"a key above what is farther above":    func(w *twin) int { return w.deeper("m", "z") },
		"a key that is one farther above":      func(w *twin) int { return w.deeper("m", "r") },
		"a key between that is too low":        func(w *twin) int { return w.between("c") },
		"a key between that is too high":       func(w *twin) int { return w.between("x") },
		"a key between that is the one ahead":  func(w *twin) int { return w.between("m") },
		"a key between that is the one behind": func(w *twin) int { return w.between("r") },
	}
}

// deeper is a tree in which the keys k and l stand in two leaves below a node that is between m and r.
func (w *twin) deeper(k, l string) int {
	w.Helper()
	return w.inner([]int{
		w.inner([]int{w.leaf("a"), w.leaf("b")}, "b"),
		w.inner([]int{w.leaf(k), w.leaf(l)}, l),
		w.inner([]int{w.leaf("s"), w.leaf("t")}, "t"),
	}, "m", "r")
}

// between is a tree in which a key stands above leaves of n and p, in a node that is between m and r.
func (w *twin) between(key string) int {
	w.Helper()
	return w.inner([]int{
		w.inner([]int{w.leaf("a"), w.leaf("b")}, "b"),
		w.inner([]int{w.leaf("n"), w.leaf("p")}, key),
		w.inner([]int{w.leaf("s"), w.leaf("t")}, "t"),
	}, "m", "r")
}

// valuesFallen are those whose longer values are not as they must be.
func valuesFallen() map[string]func(w *twin) int {
	return map[string]func(w *twin) int{
		"a chain that stands nowhere": func(w *twin) int { return w.cells(api.Cell{Key: "a", First: 30, Long: 100}) },
		"a chain that is shorter": func(w *twin) int {
			c := w.chain("a", text(100))
			c.Long++
			return w.cells(c)
		},
		"a chain that is longer": func(w *twin) int {
			c := w.chain("a", text(500))
			c.Long -= 238
			return w.cells(c)
		},
		"a chain that is broken": func(w *twin) int {
			c := w.chain("a", text(500))
			w.is(w.x.Drop(1), api.OK)
			w.other(7, "no chain's")
			return w.cells(api.Cell{Key: "B"}, c)
		},
		"a chain that was dropped": func(w *twin) int {
			c := w.chain("a", text(500))
			w.is(over.Drop(w.x, c.First), api.OK)
			return w.inner([]int{w.cells(c), w.leaf("b")}, "b")
		},
		"a chain of a node": func(w *twin) int {
			return w.cells(api.Cell{Key: "a", First: w.leaf("b"), Long: 100})
		},
		"a chain of the page itself": func(w *twin) int {
			at := w.later()
			w.told(at, api.Node{Leaf: true, Cells: []api.Cell{{Key: "a", First: at, Long: 100}}})
			return at
		},
		"a chain of two cells": func(w *twin) int {
			c := w.chain("a", text(500))
			return w.cells(c, api.Cell{Key: "b", First: c.First, Long: c.Long})
		},
		"a chain of two cells of two leaves": func(w *twin) int {
			c := w.chain("a", text(500))
			return w.inner([]int{w.cells(c), w.cells(api.Cell{Key: "b", First: c.First, Long: c.Long})}, "b")
		},
		"a chain that ends in another one": func(w *twin) int {
			c := w.chain("a", text(500))
			return w.cells(c, api.Cell{Key: "b", First: c.First - 1, Long: 500 - 238})
		},
		"a chain that is a Kid, too": func(w *twin) int {
			c := w.chain("a", text(500))
			return w.inner([]int{w.cells(c), c.First}, "b")
		},
	}
}

// asked are keys that are asked for in trees that do not stand.
var asked = []string{"", "a", "aa", "b", "c", "k", "m", "n", "p", "q", "z", text(40)}

// P13.4: Check of trees that do not stand; all calls answer something, and end, also behind one another.
func TestFallen(t *testing.T) {
	for name, build := range fallen() {
		w := newTwin(t, 1024)
		root := build(w)
		if pages, e := tree.Check(w.x, root); len(pages) != 0 || e != api.ErrBroken {
			t.Errorf("%s: %v, %d", name, pages, e)
		}
		if look(w.x, root).stands {
			t.Errorf("%s: it stands", name)
		}
		for _, key := range asked {
			for _, n := range []int{0, 40, 100, 600} {
				w := newTwin(t, 1024)
				root := build(w)
				w.answers(root, key, n)
			}
		}
	}
}

// P13.4: where a leaf would be joined with a node that is none, or the other way round, the tree does not stand: no page is made of both.
func TestOtherSort(t *testing.T) {
	for _, name := range []string{"a leaf that is too high", "a leaf that is too deep", "a leaf in the midst that is too deep"} {
		for _, key := range []string{"a", "c", "d", "m", "n", "r"} {
			w := newTwin(t, 64)
			root := fallen()[name](w)
			_, there, _ := tree.Get(w.x, root, key)
			_, had, e := tree.Drop(w.x, root, key)
			if there && (e != api.ErrBroken || had) || !there && e != api.OK {
				t.Errorf("%s, Drop of %q: %t, %d", name, key, had, e)
			}
		}
	}
}

// answers asks all of a tree that may not stand: beside an error there is nothing.
func (w *twin) answers(root int, key string, n int) {
	w.Helper()
	l := []call{all, checking, getting(key), putting(key, text(n)), getting(key), dropping(key), getting(key), putting(key, text(n)), dropping(key + "+"), all, checking}
	for i, f := range l {
		if e, more := f(w.x, root); more && e != api.OK {
			w.Fatalf("%d, of %q, in call %d, and something beside it", e, key, i)
		}
	}
}

// P13.4: Check of trees that stand: the pages, with those of chains, rising.
func TestCheck(t *testing.T) {
	w := newTwin(t, 64)
	for _, g := range []struct {
		root int
		want []int
	}{
		{0, nil},
		{w.leaf("a"), []int{1}},
		{w.inner([]int{w.leaf("a"), w.leaf("m")}, "m"), []int{2, 3, 4}},
		{w.cells(w.chain("a", text(600))), []int{5, 6, 7, 8}},
		{w.inner([]int{w.cells(w.chain("m", text(300))), w.cells(w.chain("n", text(41)), api.Cell{Key: "q"}, w.chain("z", text(239)))}, "n"), []int{9, 10, 11, 12, 13, 14, 15, 16}},
	} {
		pages, e := tree.Check(w.x, g.root)
		if !slices.Equal(pages, g.want) || e != api.OK {
			t.Errorf("%d: %v, %d", g.root, pages, e)
		}
	}
	// A root with a higher number than its Kids, and a lower one.
	at := w.later()
	w.told(at, api.Node{Keys: []string{"m"}, Kids: []int{w.leaf("a"), w.leaf("z")}})
	if pages, e := tree.Check(w.x, at); !slices.Equal(pages, []int{17, 18, 19}) || e != api.OK {
		t.Error(pages, e)
	}
}

// drawnNode draws a node of short keys, whose Kids are pages of some.
func drawnNode(r *rand.Rand, pages int, cells []api.Cell) api.Node {
	letters := "abcdefgh"
	n := api.Node{Leaf: r.Intn(2) == 0}
	from := r.Intn(len(letters))
	for _, c := range letters[from:min(len(letters), from+1+r.Intn(3))] {
		switch {
		case !n.Leaf:
			n.Keys = append(n.Keys, string(c))
		case r.Intn(6) == 0 && len(cells) > 0:
			long := cells[r.Intn(len(cells))]
			n.Cells = append(n.Cells, api.Cell{Key: string(c), First: long.First, Long: long.Long})
		default:
			n.Cells = append(n.Cells, api.Cell{Key: string(c), Value: text(r.Intn(41))})
		}
	}
	for range n.Keys {
		n.Kids = append(n.Kids, 1+r.Intn(pages))
	}
	if !n.Leaf {
		n.Kids = append(n.Kids, 1+r.Intn(pages))
	}
	return n
}

// P13.4: drawn pages, that lead to each other: Check tells what the chapter's words do, and all calls answer something, and end.
func TestDrawnPages(t *testing.T) {
	stood := 0
	for seed := range 3000 {
		r := rand.New(rand.NewSource(int64(seed)))
		w := newTwin(t, 64)
		pages := 1 + r.Intn(6)
		for range pages {
			w.later()
		}
		long := []api.Cell{w.chain("", text(100)), w.chain("", text(300)), w.chain("", text(41))}
		for at := 1; at <= pages; at++ {
			w.told(at, drawnNode(r, pages+r.Intn(2), long))
		}
		for root := 1; root <= pages; root++ {
			if w.agrees(root) {
				stood++
			}
		}
		w.answers(1+r.Intn(pages), "abcdefgh"[r.Intn(8):][:1], r.Intn(200))
	}
	if stood < 100 {
		t.Errorf("%d stood", stood)
	}
}

// agrees asks Check, and tells whether the tree stands.
func (w *twin) agrees(root int) bool {
	w.Helper()
	m := look(w.x, root)
	want := api.ErrBroken
	if m.stands {
		want = api.OK
	}
	if pages, e := tree.Check(w.x, root); !slices.Equal(pages, m.pages()) || e != want {
		w.Fatalf("%v, %d, not %v, %d", pages, e, m.pages(), want)
	}
	return m.stands
}

// P13.4: trees that stood, of which a page was changed: Check tells what the chapter's words do, and all calls answer something, and end.
func TestSpoiled(t *testing.T) {
	fell := 0
	for seed := range 700 {
		r := rand.New(rand.NewSource(int64(seed)))
		w := newTwin(t, 256)
		for range 30 {
			root, e := tree.Put(w.x, w.root, string([]byte{byte('a' + r.Intn(26)), byte('a' + r.Intn(26))}), text(r.Intn(60)))
			w.is(e, api.OK)
			w.root = root
		}
		pages, _ := tree.Check(w.x, w.root)
		w.changed(r, pages)
		if !w.agrees(w.root) {
			fell++
		}
		for range 4 {
			w.answers(w.root, string([]byte{byte('a' + r.Intn(26)), byte('a' + r.Intn(26))}), r.Intn(100))
		}
	}
	if fell < 250 {
		t.Errorf("%d fell", fell)
	}
}

// changed changes something of a page of a tree.
func (w *twin) changed(r *rand.Rand, pages []int) {
	w.Helper()
	at := pages[r.Intn(len(pages))]
	kind, body, e := w.x.Read(at)
	w.is(e, api.OK)
	b := []byte(body)
	switch r.Intn(5) {
	case 0:
		w.is(w.x.Drop(at), api.OK)
	case 1:
		_, body, _ = w.x.Read(pages[r.Intn(len(pages))])
		w.is(w.x.Write(at, kind, body), api.OK)
	default:
		i := r.Intn(len(b))
		b[i] += byte(1 + r.Intn(3))
		w.is(w.x.Write(at, kind, string(b)), api.OK)
	}
}
