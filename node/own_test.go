package node_test

import (
	"math/rand"
	"slices"
	"testing"

	"foyer/api"
	"foyer/node"
)

// This file holds R5: what is handed in is not changed, and what is answered is new.

// roomy is a node as n, whose lists are cut out of longer ones: so many items stand ahead, and so many behind, within their room.
func roomy(n api.Node) (within, whole api.Node) {
	cells := slices.Concat([]api.Cell{{Key: "!"}}, n.Cells, []api.Cell{{Key: "!"}, {Key: "!"}})
	keys := slices.Concat([]string{"!"}, n.Keys, []string{"!", "!"})
	pages := slices.Concat([]int{-9}, n.Kids, []int{-9, -9})
	whole = api.Node{Cells: cells, Keys: keys, Kids: pages}
	within = api.Node{Leaf: n.Leaf, Cells: cells[1 : 1+len(n.Cells)], Keys: keys[1 : 1+len(n.Keys)], Kids: pages[1 : 1+len(n.Kids)]}
	return within, whole
}

// tight is a node as n, whose lists have no room behind them.
func tight(n api.Node) api.Node {
	within, _ := roomy(n)
	n.Cells = within.Cells[:len(n.Cells):len(n.Cells)]
	n.Keys = within.Keys[:len(n.Keys):len(n.Keys)]
	n.Kids = within.Kids[:len(n.Kids):len(n.Kids)]
	return n
}

// copied is a node as n, of lists of its own.
func copied(n api.Node) api.Node {
	n.Cells, n.Keys, n.Kids = slices.Clone(n.Cells), slices.Clone(n.Keys), slices.Clone(n.Kids)
	return n
}

// spoil writes over all that a node's lists have room for.
func spoil(n api.Node) {
	for i := range n.Cells[:cap(n.Cells)] {
		n.Cells[:cap(n.Cells)][i] = api.Cell{Key: "spoiled", First: -5}
	}
	for i := range n.Keys[:cap(n.Keys)] {
		n.Keys[:cap(n.Keys)][i] = "spoiled"
	}
	for i := range n.Kids[:cap(n.Kids)] {
		n.Kids[:cap(n.Kids)][i] = -5
	}
}

// owners are nodes of which something is answered.
func owners(r *rand.Rand) []api.Node {
	l := []api.Node{sizes(3, 3), lengths(1, 1, 1), sizes(10, 20, 30, 40), lengths(10, 20, 30, 40)}
	for range 200 {
		l = append(l, anyNode(r, 9))
	}
	for _, g := range all() {
		l = append(l, g.node)
	}
	return l
}

// R5 of Split: the node, and what stands about its lists, stays; both parts have lists of their own.
func TestOwnSplit(t *testing.T) {
	for _, n := range owners(rand.New(rand.NewSource(5))) {
		within, whole := roomy(n)
		was := copied(whole)
		a, b, _, e := node.Split(within)
		if !same(within, n) || !same(whole, was) {
			t.Fatalf("Split changed %v", n)
		}
		if e != api.OK {
			continue
		}
		second := copied(b)
		spoil(a)
		if !same(b, second) {
			t.Fatalf("both parts of %v share a list", n)
		}
		spoil(b)
		if !same(within, n) || !same(whole, was) {
			t.Fatalf("a part shares a list with %v", n)
		}
		again, _, _, _ := node.Split(within)
		first := copied(again)
		spoil(within)
		if !same(again, first) {
			t.Fatalf("a part hangs on what %v becomes", n)
		}
	}
}

// R5 of Join: both parts, and what stands about their lists, stay; the node has lists of its own.
func TestOwnJoin(t *testing.T) {
	joined := 0
	for _, n := range owners(rand.New(rand.NewSource(6))) {
		if !mayBe(n) || cuts(n) < 1 {
			continue
		}
		for i := 1; i <= cuts(n); i++ {
			a, b, key := parts(n, i)
			first, one := roomy(a)
			second, two := roomy(b)
			wasOne, wasTwo := copied(one), copied(two)
			for _, g := range [][2]api.Node{{first, second}, {tight(a), tight(b)}, {tight(a), second}} {
				whole, is := node.Join(g[0], g[1], key)
				if !same(g[0], a) || !same(g[1], b) || !same(one, wasOne) || !same(two, wasTwo) {
					t.Fatalf("Join changed a part of %v", n)
				}
				if !is {
					continue
				}
				joined++
				spoil(whole)
				if !same(g[0], a) || !same(g[1], b) || !same(one, wasOne) || !same(two, wasTwo) {
					t.Fatalf("the node shares a list with a part of %v", n)
				}
			}
			whole, is := node.Join(first, second, key)
			spoil(first)
			spoil(second)
			if is && !same(whole, n) {
				t.Fatalf("the node hangs on what a part of %v becomes", n)
			}
		}
	}
	if joined < 300 {
		t.Errorf("%d were joined", joined)
	}
}

// R5 of Put, Fits, Find and Get: nothing is changed, and what is read twice is two.
func TestOwnRest(t *testing.T) {
	for _, n := range owners(rand.New(rand.NewSource(7))) {
		within, whole := roomy(n)
		was := copied(whole)
		s, e := node.Put(within)
		node.Fits(within)
		for _, k := range append(slices.Clone(keysOf(n)), "", "m") {
			node.Find(within, k)
		}
		if !same(within, n) || !same(whole, was) {
			t.Fatalf("%v was changed", n)
		}
		if e != api.OK {
			continue
		}
		one, _ := node.Get(s)
		two, _ := node.Get(s)
		spoil(one)
		if !same(two, n) {
			t.Fatalf("what is read of %x shares a list", s)
		}
	}
}

// R6: the same calls answer the same, and lists that are nil count as those without elements.
func TestSameAnswers(t *testing.T) {
	for _, n := range owners(rand.New(rand.NewSource(8))) {
		filled := copied(n)
		filled.Cells, filled.Keys, filled.Kids = slices.Concat([]api.Cell{}, n.Cells), slices.Concat([]string{}, n.Keys), slices.Concat([]int{}, n.Kids)
		s, e := node.Put(n)
		a, b, key, se := node.Split(n)
		again, ae := node.Put(filled)
		first, second, between, fe := node.Split(filled)
		if s != again || e != ae || !same(a, first) || !same(b, second) || key != between || se != fe {
			t.Fatalf("two answers of %v", n)
		}
	}
}
