package scan_test

import (
	"strings"
	"testing"

	"foyer/api"
	"foyer/scan"
)

// P14.1, P14.2: the chapter's examples.
func TestExamples(t *testing.T) {
	w := newStore(t, 64).puts([]string{"b", "d", "f"}, func(i int) string { return string("123"[i]) })
	b, d, f, zero := api.Pair{Key: "b", Value: "1"}, api.Pair{Key: "d", Value: "2"}, api.Pair{Key: "f", Value: "3"}, api.Pair{}
	for _, g := range []struct {
		name, key string
		want      api.Pair
		is        bool
	}{
		{"At", "c", d, true}, {"At", "d", d, true}, {"At", "g", zero, false},
		{"After", "d", f, true}, {"After", "", b, true}, {"After", "f", zero, false},
		{"Before", "d", b, true}, {"Before", "b", zero, false},
		{"Last", "", f, true},
	} {
		call := scan.At
		switch g.name {
		case "After":
			call = scan.After
		case "Before":
			call = scan.Before
		case "Last":
			pair, is, e := scan.Last(w.x, w.root)
			w.one(g.name, g.key, pair, is, e, g.want, g.is)
			continue
		}
		pair, is, e := call(w.x, w.root, g.key)
		w.one(g.name, g.key, pair, is, e, g.want, g.is)
	}
	if l, e := scan.Range(w.x, w.root, "c", "f", 9); len(l) != 1 || l[0] != d || e != api.OK {
		t.Error(l, e)
	}
	if l, e := scan.Range(w.x, w.root, "b", "", 2); len(l) != 2 || l[0] != b || l[1] != d || e != api.OK {
		t.Error(l, e)
	}
	if n, e := scan.Count(w.x, w.root, "c", ""); n != 2 || e != api.OK {
		t.Error(n, e)
	}
	w.all()
}

// P14.1, P14.2: the tree without pairs.
func TestNone(t *testing.T) {
	w := newStore(t, 64)
	w.all()
	w.finds("a")
	w.finds(text(300))
	w.ranges("a", "b")
	w.ranges("b", "a")
	// Other trees of the store count for nothing.
	w.leaf("a", "b")
	w.all()
	w.laid().all()
	was := w.d.Ops()
	w.all()
	if ops := w.d.Ops() - was; ops != 2*len(w.x.Pages()) {
		t.Errorf("%d operations", ops)
	}
}

// byHand are trees that stand, and were made by hand: each one's root.
func byHand() map[string]func(w *store) int {
	return map[string]func(w *store) int{
		"one pair":              func(w *store) int { return w.leaf("m") },
		"one leaf":              func(w *store) int { return w.leaf("b", "d", "dd", "f") },
		"keys that begin alike": func(w *store) int { return w.leaf("a", "a\x00", "a\x00\x00", "aa", "aaa", "ab", "b") },
		"the least keys":        func(w *store) int { return w.leaf("\x00", "\x00\x00", "\x01", "\xff", "\xff\xff") },
		"two leaves":            func(w *store) int { return w.inner([]int{w.leaf("b", "d"), w.leaf("m", "p")}, "m") },
		"two leaves, and a key between that is no pair's": func(w *store) int {
			return w.inner([]int{w.leaf("b", "d"), w.leaf("m", "p")}, "g")
		},
		"three leaves, and keys between that are no pair's": func(w *store) int {
			return w.inner([]int{w.leaf("b"), w.leaf("h", "k"), w.leaf("s")}, "d\x00", "p")
		},
		"leaves of one pair, three levels": func(w *store) int {
			return w.inner([]int{
				w.inner([]int{w.leaf("b"), w.leaf("d")}, "c"),
				w.inner([]int{w.leaf("h"), w.leaf("k"), w.leaf("m")}, "j", "l"),
				w.inner([]int{w.leaf("s"), w.leaf("w")}, "u"),
			}, "f", "q")
		},
		"four levels, and the same key in a leaf and above": func(w *store) int {
			low := w.inner([]int{w.inner([]int{w.leaf("b"), w.leaf("d")}, "d"), w.inner([]int{w.leaf("f"), w.leaf("h")}, "h")}, "f")
			high := w.inner([]int{w.inner([]int{w.leaf("m"), w.leaf("p")}, "p"), w.inner([]int{w.leaf("s"), w.leaf("w")}, "w")}, "s")
			return w.inner([]int{low, high}, "m")
		},
		"longer values": func(w *store) int {
			return w.inner([]int{
				w.cells(w.chain("b", text(41)), api.Cell{Key: "d", Value: text(40)}, w.chain("f", text(2000))),
				w.cells(w.chain("m", text(239)), api.Cell{Key: "p"}),
			}, "k")
		},
	}
}

// P14.1, P14.2: trees made by hand, of one leaf and of more levels: each call, of all keys and spans about those that are there.
func TestByHand(t *testing.T) {
	for name, build := range byHand() {
		t.Run(name, func(t *testing.T) {
			w := newStore(t, 128)
			w.rooted(build(w)).all()
			w.laid().all()
		})
	}
}

// P14.1: the pair that is asked for lies in the leaf beside, below the same node, and below another one.
func TestBeside(t *testing.T) {
	w := newStore(t, 64)
	w.rooted(byHand()["leaves of one pair, three levels"](w))
	for _, g := range []struct{ key, at, before string }{
		{"b\x00", "d", "b"}, {"c", "d", "b"}, {"d\x00", "h", "d"}, {"e", "h", "d"}, {"f", "h", "d"}, {"g", "h", "d"},
		{"h", "h", "d"}, {"i", "k", "h"}, {"j", "k", "h"}, {"l", "m", "k"}, {"n", "s", "m"}, {"q", "s", "m"}, {"r", "s", "m"},
		{"t", "w", "s"}, {"u", "w", "s"}, {"v", "w", "s"}, {"b", "b", ""}, {"a", "b", ""}, {"x", "", "w"}, {"w\x00", "", "w"},
	} {
		if pair, is, e := scan.At(w.x, w.root, g.key); pair.Key != g.at || is != (g.at != "") || e != api.OK {
			t.Errorf("At of %q: %q, %t, %d", g.key, pair, is, e)
		}
		if pair, is, e := scan.Before(w.x, w.root, g.key); pair.Key != g.before || is != (g.before != "") || e != api.OK {
			t.Errorf("Before of %q: %q, %t, %d", g.key, pair, is, e)
		}
	}
	for _, g := range []struct{ key, after string }{{"", "b"}, {"b", "d"}, {"c", "d"}, {"d", "h"}, {"f", "h"}, {"m", "s"}, {"q", "s"}, {"s", "w"}, {"w", ""}} {
		if pair, is, e := scan.After(w.x, w.root, g.key); pair.Key != g.after || is != (g.after != "") || e != api.OK {
			t.Errorf("After of %q: %q, %t, %d", g.key, pair, is, e)
		}
	}
}

// P14.1: keys of 40 bytes, and texts of 39, 40, 41 and far more about them.
func TestLongKeys(t *testing.T) {
	begin := strings.Repeat("k", 38)
	var keys []string
	for i := range 24 {
		keys = append(keys, begin+string([]byte{byte(i), 0}), begin+string([]byte{byte(i), 255}))
	}
	w := newStore(t, 256).puts(keys, shorter)
	if w.deep() < 3 {
		t.Fatal(w.deep())
	}
	was := w.bodies()
	for _, key := range keys {
		for _, more := range []string{"", "\x00", "\xff", strings.Repeat("\x00", 1000), strings.Repeat("\xff", 100000)} {
			w.finds(key + more)
			w.finds(key[:39] + more)
			w.ranges(key+more, "")
			w.ranges(key[:39], key+more)
			w.ranges(begin, key[:39]+more)
		}
	}
	w.unchanged(was)
}

// P14.1: a key of a node above is no pair's any more, as its pair was dropped.
func TestDropped(t *testing.T) {
	w := newStore(t, 256)
	var keys []string
	for i := range 60 {
		keys = append(keys, "key "+string([]byte{byte('A' + i)}))
	}
	w.puts(keys, func(int) string { return text(30) })
	if w.deep() < 2 {
		t.Fatal(w.deep())
	}
	for i := 0; i < len(keys); i += 3 {
		w.dropped(keys[i])
		for _, key := range keys {
			w.finds(key)
			w.ranges(key, "")
			w.ranges("", key)
		}
	}
	if !w.hasNone(keys) {
		t.Error("each key of a node above is a pair's")
	}
}

// P14.1, P14.2: values that stand in their cells, and longer ones, whole in each answer.
func TestValues(t *testing.T) {
	var keys []string
	for i := range sizes {
		keys = append(keys, "value "+string([]byte{byte('a' + i)}))
	}
	w := newStore(t, 256).puts(keys, sized)
	for range 2 {
		for _, key := range w.beside() {
			w.finds(key)
			w.ranges(key, "")
			w.ranges("", key)
		}
		for _, pair := range w.has {
			if got, is, e := scan.At(w.x, w.root, pair.Key); got != pair || !is || e != api.OK {
				t.Errorf("%q: %q, %t, %d", pair.Key, got, is, e)
			}
		}
		w.laid()
	}
}
