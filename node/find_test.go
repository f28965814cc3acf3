package node_test

import (
	"testing"

	"foyer/api"
	"foyer/node"
)

// finds asks for what Find answers, of Find and of the plain one.
func finds(t *testing.T, n api.Node, key string, at int, is bool) {
	t.Helper()
	if i, was := find(n, key); i != at || was != is {
		t.Fatalf("the plain Find of %q in %v: %d, %v", key, n, i, was)
	}
	if i, was := node.Find(n, key); i != at || was != is {
		t.Errorf("Find(%v, %q): %d, %v; not %d, %v", n, key, i, was, at, is)
	}
}

// The chapter's examples of Find.
func TestFindExample(t *testing.T) {
	l := leaf(short("a", "x"), longer("b", 7, 300))
	finds(t, l, "a", 0, true)
	finds(t, l, "aa", 1, false)
	finds(t, l, "b", 1, true)
	finds(t, l, "c", 2, false)
	n := inner(3, "m")
	finds(t, n, "l", 0, true)
	finds(t, n, "m", 1, true)
	finds(t, n, "z", 1, true)
}

// P11.5: keys below the first one, at each one, between each two, and above the last one.
func TestFind(t *testing.T) {
	keys := []string{"\x00", "b", "b\x00", "bb", "d", "\x7f", "\x80", "\xff", "\xff\xff"}
	between := []string{"\x00\x00", "b", "b\x00\x00", "c", "e", "\x7fz", "\x81", "\xff\x00", "\xff\xff\x00"}
	l := api.Node{Leaf: true}
	for _, k := range keys {
		l.Cells = append(l.Cells, short(k, ""))
	}
	n := inner(3, keys...)
	finds(t, l, "", 0, false)
	finds(t, n, "", 0, true)
	for i, k := range keys {
		finds(t, l, k, i, true)
		finds(t, n, k, i+1, true)
		if k != between[i] {
			finds(t, l, between[i], i+1, false)
			finds(t, n, between[i], i+1, true)
		}
	}
}

// P11.5: of nodes that may not be, up to the first key that is so, whatever stands behind it.
func TestFindOdd(t *testing.T) {
	falls := leaf(short("c", ""), short("a", ""), short("e", ""), short("b", ""))
	finds(t, falls, "a", 0, false)
	finds(t, falls, "b", 0, false)
	finds(t, falls, "c", 0, true)
	finds(t, falls, "d", 2, false)
	finds(t, falls, "e", 2, true)
	finds(t, falls, "f", 4, false)
	fall := inner(3, "c", "a", "e", "b")
	finds(t, fall, "a", 0, true)
	finds(t, fall, "b", 0, true)
	finds(t, fall, "c", 2, true)
	finds(t, fall, "e", 4, true)
	finds(t, leaf(short("a", ""), short("a", "")), "a", 0, true)
	finds(t, inner(3, "a", "a", "b"), "a", 2, true)
	finds(t, leaf(short("", "")), "", 0, true)
	finds(t, inner(3, "", "a"), "", 1, true)
	finds(t, leaf(), "a", 0, false)
	finds(t, leaf(), "", 0, false)
	finds(t, api.Node{}, "a", 0, true)
	finds(t, api.Node{}, "", 0, true)
	// Of each sort the other one's lists count for nothing.
	both := api.Node{Cells: []api.Cell{short("a", ""), short("c", "")}, Keys: []string{"b"}, Kids: []int{3, 4}}
	finds(t, both, "c", 1, true)
	finds(t, both, "a", 0, true)
	both.Leaf = true
	finds(t, both, "c", 1, true)
	finds(t, both, "b", 1, false)
	finds(t, both, "d", 2, false)
}

// P11.5: keys that are longer than a key may be.
func TestFindLong(t *testing.T) {
	l, n := leaf(short(x(40), "")), inner(3, x(40))
	finds(t, l, x(41), 1, false)
	finds(t, l, x(300), 1, false)
	finds(t, n, x(41), 1, true)
	finds(t, n, x(39), 0, true)
	finds(t, leaf(short(x(50), "")), x(50), 0, true)
}
