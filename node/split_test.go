package node_test

import (
	"strings"
	"testing"

	"foyer/api"
	"foyer/node"
)

// splits asks that Split answers what the plain one does.
func splits(t *testing.T, name string, n api.Node) {
	t.Helper()
	first, second, between, want := split(n)
	a, b, key, e := node.Split(n)
	if !same(a, first) || !same(b, second) || key != between || e != want {
		t.Errorf("%s: Split(%v): %v, %v, %q, %d; not %v, %v, %q, %d", name, n, a, b, key, e, first, second, between, want)
	}
}

// cell is a cell of so many bytes, whose key begins with first.
func cell(first string, size int) api.Cell {
	key := min(40, size-2)
	return short(first+x(key-1), x(size-2-key))
}

// sizes is a leaf of cells of so many bytes.
func sizes(l ...int) api.Node {
	n := api.Node{Leaf: true}
	for i, size := range l {
		n.Cells = append(n.Cells, cell(string([]byte{byte('a' + i)}), size))
	}
	return n
}

// lengths is a node of keys of so many bytes.
func lengths(l ...int) api.Node {
	var keys []string
	for i, size := range l {
		keys = append(keys, string([]byte{byte('a' + i)})+x(size-1))
	}
	return inner(11, keys...)
}

// The chapter's examples of Split and Join.
func TestSplitExample(t *testing.T) {
	whole := leaf(short("a", "x"), longer("b", 7, 300))
	a, b, key, e := node.Split(whole)
	if !same(a, leaf(whole.Cells[0])) || !same(b, leaf(whole.Cells[1])) || key != "b" || e != api.OK {
		t.Error(a, b, key, e)
	}
	if n, is := node.Join(a, b, key); !same(n, whole) || !is {
		t.Error(n, is)
	}
}

// P11.3: what may not be is ErrArg, and has no parts.
func TestSplitNone(t *testing.T) {
	few := []given{
		{"one cell", leaf(short("a", "x")), api.ErrArg},
		{"one longer cell", leaf(longer("a", 7, 300)), api.ErrArg},
		{"one key", inner(3, "m"), api.ErrArg},
		{"two keys", inner(3, "m", "n"), api.ErrArg},
		{"two cells, alike", leaf(short("a", "x"), short("a", "y")), api.ErrArg},
		{"three keys that fall", inner(3, "m", "o", "n"), api.ErrArg},
		{"three keys, as many Kids", api.Node{Keys: []string{"m", "n", "o"}, Kids: []int{3, 4, 5}}, api.ErrArg},
		{"three keys, a Kid 0", api.Node{Keys: []string{"m", "n", "o"}, Kids: []int{3, 4, 5, 0}}, api.ErrArg},
		{"three keys and a Cell", api.Node{Keys: []string{"m", "n", "o"}, Kids: []int{3, 4, 5, 6}, Cells: []api.Cell{short("a", "x")}}, api.ErrArg},
		{"two cells and a Kid", api.Node{Leaf: true, Cells: []api.Cell{short("a", "x"), short("b", "x")}, Kids: []int{3}}, api.ErrArg},
		{"two cells, one none", leaf(short("a", "x"), longer("b", 7, 40)), api.ErrArg},
	}
	for _, g := range append(few, all()...) {
		splits(t, g.name, g.node)
		a, b, key, e := node.Split(g.node)
		if g.want == api.ErrArg && (e != api.ErrArg || !isZero(a) || !isZero(b) || key != "") {
			t.Errorf("%s: %v, %v, %q, %d", g.name, a, b, key, e)
		}
	}
}

// P11.3: by hand: the fewest that can be split, cuts that are equally good, and lengths that are very unlike.
func TestSplit(t *testing.T) {
	for _, g := range []struct {
		name string
		node api.Node
		at   int
	}{
		{"two cells", sizes(3, 3), 1},
		{"two cells, the first one great", sizes(82, 3), 1},
		{"two cells, the last one great", sizes(3, 82), 1},
		{"three alike: at 1 and 2 equally good", sizes(10, 10, 10), 1},
		{"four alike", sizes(10, 10, 10, 10), 2},
		{"five alike: at 2 and 3 equally good", sizes(10, 10, 10, 10, 10), 2},
		{"a great one first", sizes(82, 3, 3, 3, 3), 1},
		{"a great one second", sizes(3, 82, 3, 3), 2},
		{"a great one in the midst: at 2 and 3 equally good", sizes(3, 3, 82, 3, 3), 2},
		{"a great one last", sizes(3, 3, 3, 3, 82), 4},
		{"the parts' sizes count, not their cells", sizes(30, 3, 3, 3, 3, 3, 3), 1},
		{"at 3, 12 and 12", sizes(4, 4, 4, 6, 6), 3},
		{"that does not fit", sizes(82, 82, 82, 82, 82), 2},
		{"three keys", lengths(1, 1, 1), 1},
		{"three keys, the first one great", lengths(40, 1, 1), 1},
		{"three keys, the midst one great", lengths(1, 40, 1), 1},
		{"three keys, the last one great", lengths(1, 1, 40), 1},
		{"four keys: at 1 and 2 equally good", lengths(5, 5, 5, 5), 1},
		{"five keys", lengths(5, 5, 5, 5, 5), 2},
		{"a great key first", lengths(40, 1, 1, 1, 1), 1},
		{"a great key between", lengths(1, 1, 40, 1, 1), 2},
		{"a great key last", lengths(1, 1, 1, 1, 40), 3},
		{"keys that do not fit", lengths(40, 40, 40, 40, 40, 40, 40), 3},
		{"a Kid counts, beside a key", lengths(1, 1, 1, 1, 8, 1), 3},
	} {
		splits(t, g.name, g.node)
		first, second, between := parts(g.node, g.at)
		a, b, key, e := node.Split(g.node)
		if !same(a, first) || !same(b, second) || key != between || e != api.OK {
			t.Errorf("%s: cut behind %d, %q, %d", g.name, len(a.Cells)+len(a.Keys), key, e)
		}
	}
}

// P11.3: a longer value counts with the bytes that it has in the leaf, not with its own.
func TestSplitLonger(t *testing.T) {
	long := leaf(longer("a", 7, 2000), short("b", x(10)), short("c", x(10)))
	splits(t, "a longer one first", long)
	if a, _, key, e := node.Split(long); len(a.Cells) != 2 || key != "c" || e != api.OK {
		t.Error(a, key, e)
	}
	splits(t, "a longer one last", leaf(short("a", x(10)), short("b", x(10)), longer("c", 7, 41)))
}

// P11.3: all leaves of two to five cells, and all nodes of three to six keys, of few lengths.
func TestSplitAll(t *testing.T) {
	var each func(l []int, most int, of func([]int))
	each = func(l []int, most int, of func([]int)) {
		of(l)
		if len(l) < most {
			for _, size := range []int{1, 2, 7, 40} {
				each(append(l[:len(l):len(l)], size), most, of)
			}
		}
	}
	each(nil, 6, func(l []int) { splits(t, "keys", lengths(l...)) })
	each(nil, 5, func(l []int) {
		n := api.Node{Leaf: true}
		for i, size := range l {
			n.Cells = append(n.Cells, cell(string([]byte{byte('a' + i)}), 2*size+1))
		}
		splits(t, "cells", n)
	})
}

// P11.3: far more cells, and keys, than a byte tells: a part's bytes are as many as they are.
func TestSplitMany(t *testing.T) {
	for _, many := range []int{255, 256, 257, 511, 600} {
		cells, keys := leaf(), inner(3)
		for i := range many {
			size := 2 + i%7*i%5
			cells.Cells = append(cells.Cells, short(two(i+1), strings.Repeat("v", size)))
			keys.Keys, keys.Kids = append(keys.Keys, two(i+1)+x(size)), append(keys.Kids, 1+i)
		}
		splits(t, "many cells", cells)
		splits(t, "many keys", keys)
	}
}
