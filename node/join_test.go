package node_test

import (
	"testing"

	"foyer/api"
	"foyer/node"
)

// joins asks that Join answers what the plain one does.
func joins(t *testing.T, name string, a, b api.Node, key string) {
	t.Helper()
	want, should := join(a, b, key)
	n, is := node.Join(a, b, key)
	if !same(n, want) || is != should {
		t.Errorf("%s: Join(%v, %v, %q): %v, %v; not %v, %v", name, a, b, key, n, is, want, should)
	}
}

// pair is two nodes, a key, and whether they are joined.
type pair struct {
	name string
	a, b api.Node
	key  string
	want bool
}

// apart asks for what is told of each pair.
func apart(t *testing.T, l []pair) {
	t.Helper()
	for _, g := range l {
		joins(t, g.name, g.a, g.b, g.key)
		n, is := node.Join(g.a, g.b, g.key)
		if is != g.want || !is && !isZero(n) {
			t.Errorf("%s: %v, %v", g.name, n, is)
		}
	}
}

// P11.4: leaves, whose key counts for nothing.
func TestJoinLeaves(t *testing.T) {
	a, b := leaf(short("a", "x"), longer("b", 7, 300)), leaf(short("c", ""), short("d", "y"))
	for _, key := range []string{"c", "", "a", "b", "bb", "cc", "d", "z", "\x00", x(40), x(41), x(300)} {
		apart(t, []pair{{"leaves", a, b, key, true}, {"leaves turned", b, a, key, false}})
		n, _ := node.Join(a, b, key)
		if !same(n, leaf(a.Cells[0], a.Cells[1], b.Cells[0], b.Cells[1])) {
			t.Error(key, n)
		}
	}
	apart(t, []pair{
		{"keys alike across the cut", a, leaf(short("b", "z")), "b", false},
		{"keys fall across the cut", a, leaf(short("aa", "z")), "aa", false},
		{"the same leaf", a, a, "c", false},
		{"a leaf of none ahead", leaf(), b, "c", false},
		{"a leaf of none behind", a, leaf(), "c", false},
		{"a part that may not be", leaf(short("a", x(41))), b, "c", false},
		{"a second part that may not be", a, leaf(longer("c", 7, 40)), "c", false},
		{"a part with a Kid", api.Node{Leaf: true, Cells: a.Cells, Kids: []int{3}}, b, "c", false},
		{"a second part with a Kid", a, api.Node{Leaf: true, Cells: b.Cells, Kids: []int{3}}, "c", false},
		{"a second part with Keys", a, api.Node{Leaf: true, Cells: b.Cells, Keys: []string{"k"}, Kids: []int{3, 4}}, "c", false},
		{"a part whose keys fall", leaf(short("b", ""), short("a", "")), b, "c", false},
	})
}

// P11.4: nodes that are no leaves, across whose cut the key between rises.
func TestJoinInner(t *testing.T) {
	a, b := inner(3, "c", "f"), inner(8, "m", "p")
	for _, key := range []string{"g", "f\x00", "l", "ff"} {
		apart(t, []pair{{"nodes", a, b, key, true}})
		n, _ := node.Join(a, b, key)
		if !same(n, api.Node{Keys: []string{"c", "f", key, "m", "p"}, Kids: []int{3, 4, 5, 8, 9, 10}}) {
			t.Error(key, n)
		}
	}
	for _, key := range []string{"", "a", "c", "e", "f", "m", "n", "p", "z", "\xff", "g" + x(40), x(300)} {
		apart(t, []pair{{"a key that does not rise, or is none", a, b, key, false}})
	}
	apart(t, []pair{
		{"a key of 40", a, b, "g" + x(39), true},
		{"a key of 41", a, b, "g" + x(40), false},
		{"turned", b, a, "g", false},
		{"keys alike across the cut", a, inner(8, "f"), "f", false},
		{"a zero node ahead", api.Node{}, b, "g", false},
		{"a zero node behind", a, api.Node{}, "g", false},
		{"two zero nodes", api.Node{}, api.Node{}, "g", false},
		{"a part of a Kid alone", api.Node{Kids: []int{3}}, b, "g", false},
		{"a second part of a Kid alone", a, api.Node{Kids: []int{3}}, "g", false},
		{"a Kid less ahead, one more behind", api.Node{Keys: []string{"c"}, Kids: []int{3}}, api.Node{Keys: []string{"m"}, Kids: []int{4, 5, 6}}, "g", false},
		{"a Kid more ahead, one less behind", api.Node{Keys: []string{"c"}, Kids: []int{3, 4, 5}}, api.Node{Keys: []string{"m"}, Kids: []int{6}}, "g", false},
		{"a Kid 0", kids(3, 0), inner(8, "n"), "mm", false},
		{"a second part's Kid 961", inner(3, "a"), kids(3, 961), "g", false},
		{"Kids alike", inner(3, "a"), inner(3, "z"), "g", true},
	})
}

// P11.4: a leaf and a node that is none are not joined.
func TestJoinUnlike(t *testing.T) {
	l, n := leaf(short("a", "x")), inner(3, "m")
	for _, key := range []string{"", "a", "b", "m", "z"} {
		apart(t, []pair{
			{"a leaf, and none", l, n, key, false},
			{"none, and a leaf", n, leaf(short("z", "x")), key, false},
			{"a leaf, and a zero node", l, api.Node{}, key, false},
			{"a zero node, and a leaf", api.Node{}, l, key, false},
		})
	}
	// A leaf with a node's lists is no node, and a node with a leaf's cells no leaf.
	apart(t, []pair{
		{"a leaf by its lists alone", l, api.Node{Cells: []api.Cell{short("b", "x")}}, "b", false},
		{"no leaf by its lists alone", n, api.Node{Leaf: true, Keys: []string{"o"}, Kids: []int{3, 4}}, "n", false},
	})
}

// P11.4: of joined nodes about as long as fits; of parts of which one does not fit alone.
func TestJoinLong(t *testing.T) {
	first := sizes(82, 82)
	for size, want := range map[int]bool{73: true, 74: true, 75: false} {
		b := leaf(cell("c", size))
		apart(t, []pair{{"leaves", first, b, "c", want}})
		if n, is := node.Join(first, b, ""); is && len(bytesOf(n)) != 166+size {
			t.Error(len(bytesOf(n)))
		}
	}
	keys := lengths(40, 40, 40)
	for size, want := range map[int]bool{17: true, 18: true, 19: false} {
		apart(t, []pair{
			{"a key behind", keys, inner(8, "e"+x(39), "f"+x(size-1)), "d" + x(39), want},
			{"a key between", keys, inner(8, "e"+x(39), "f"+x(39)), "d" + x(size-1), want},
		})
	}
	great := sizes(82, 82, 82)
	apart(t, []pair{
		{"one that does not fit ahead", great, leaf(short("z", "")), "z", false},
		{"one that does not fit behind", leaf(short("A", "")), great, "a", false},
	})
}

// P11.4: the parts of every cut of a node are joined to it, if it fits.
func TestJoinCuts(t *testing.T) {
	for _, whole := range []api.Node{
		sizes(3, 3), sizes(3, 82, 3, 5), sizes(10, 20, 30, 40, 50, 60, 28), sizes(10, 20, 30, 40, 50, 60, 29),
		leaf(longer("a", 1, 41), short("b", ""), longer("c", 960, 2000)),
		lengths(1, 1, 1), lengths(1, 40, 1, 7), lengths(40, 40, 40, 40, 40, 18), lengths(40, 40, 40, 40, 40, 19),
	} {
		if cuts(whole) < 1 {
			t.Fatal(whole)
		}
		for i := 1; i <= cuts(whole); i++ {
			a, b, key := parts(whole, i)
			n, is := node.Join(a, b, key)
			if fits := len(bytesOf(whole)) <= 240; is != fits || is && !same(n, whole) || !is && !isZero(n) {
				t.Errorf("cut at %d of %v: %v, %v", i, whole, n, is)
			}
			joins(t, "a cut", a, b, key)
			joins(t, "a cut turned", b, a, key)
		}
	}
}
