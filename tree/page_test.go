package tree_test

import (
	"slices"
	"strings"
	"testing"

	"foyer/api"
	"foyer/node"
	"foyer/over"
	"foyer/pager"
	"foyer/tree"
)

// noPages are numbers of no pages, or of none that stands.
var noPages = []int{0, -1, -2, -960, 700, 959, 960, 961, 962, 65535, 65536, 65537, 1 << 32, 1<<32 + 1, 1<<63 - 1, -1 << 63}

// alike tells whether two nodes are the same.
func alike(a, b api.Node) bool {
	return a.Leaf == b.Leaf && slices.Equal(a.Cells, b.Cells) && slices.Equal(a.Keys, b.Keys) && slices.Equal(a.Kids, b.Kids)
}

// refused asks that Page answers an error, and a zero node.
func refused(t *testing.T, x *pager.Tx, at int, want api.Errno) {
	t.Helper()
	n, e := tree.Page(x, at)
	if n.Leaf || n.Cells != nil || n.Keys != nil || n.Kids != nil || e != want {
		t.Errorf("Page of %d: %v, %d, not %d", at, n, e, want)
	}
}

// P13.1: pages of nodes, of either sort.
func TestPage(t *testing.T) {
	if tree.Kind != 1 {
		t.Error(tree.Kind)
	}
	w := newTwin(t, 64)
	for _, n := range []api.Node{
		{Leaf: true, Cells: []api.Cell{{Key: "a", Value: "x"}}},
		{Leaf: true, Cells: []api.Cell{{Key: "a"}, {Key: "b", First: 7, Long: 300}, {Key: "c", Value: text(40)}}},
		{Keys: []string{"m"}, Kids: []int{3, 4}},
		{Keys: []string{"m", "n"}, Kids: []int{960, 1, 1}},
		{Keys: []string{text(40), text(39) + "\xff"}, Kids: []int{1, 2, 3}},
	} {
		at := w.node(n)
		for range 2 {
			if got, e := tree.Page(w.x, at); !alike(got, n) || e != api.OK {
				t.Errorf("%v: %v, %d", n, got, e)
			}
		}
	}
}

// P13.1: a page of another kind, one of the kind 1 that is no node's, one that stands nowhere, and no page.
func TestPageNone(t *testing.T) {
	w := newTwin(t, 64)
	is, _ := node.Put(api.Node{Leaf: true, Cells: []api.Cell{{Key: "a", Value: "x"}}})
	other, _ := node.Put(api.Node{Keys: []string{"m"}, Kids: []int{3, 4}})
	for _, kind := range []int{2, 3, 7, 128, 254} {
		for _, body := range []string{is, other, ""} {
			refused(t, w.x, w.other(kind, body), api.ErrBroken)
		}
	}
	for _, body := range []string{"", "\x00", "\x01", "\x02", "\x01\x00", "\x02\x00", "\x03\x01", is + "x", is[:len(is)-1], other + "\x00", other[:len(other)-1], "\x01\x02\x01b\x00\x01a\x00", "\x01\x01\x00\x00", "\x02\x01\x00\x00\x01m\x00\x04", text(240)} {
		refused(t, w.x, w.other(1, body), api.ErrBroken)
	}
	for _, at := range noPages {
		refused(t, w.x, at, api.ErrBroken)
	}
	at := w.leaf("a")
	w.is(w.x.Drop(at), api.OK)
	refused(t, w.x, at, api.ErrBroken)
}

// P13.1: each other error of Read, as it is.
func TestPageErrors(t *testing.T) {
	w := newTwin(t, 64)
	at := w.leaf("a")
	for _, at := range append(noPages, at) {
		refused(t, nil, at, api.ErrNil)
		refused(t, &pager.Tx{}, at, api.ErrNil)
	}
	w.commit()
	x := w.x
	w.x.Abort()
	w.begin()
	for _, at := range append(noPages, at) {
		refused(t, x, at, api.ErrGone)
	}
	w.d.Arm(0)
	refused(t, w.x, at, api.ErrOff)
	for _, at := range append(noPages, at) {
		refused(t, w.x, at, api.ErrDead)
	}
	w.d.Boot(nil)
	w.open()
	// A sector that does not open.
	for i := 2; i < 64; i++ {
		w.d.Write(i, strings.Repeat("x", 256))
	}
	refused(t, w.x, at, api.ErrBroken)
	refused(t, w.x, at+1, api.ErrBroken)
}

// R5: what Page answers is new: to change it changes no page.
func TestPageOwn(t *testing.T) {
	w := newTwin(t, 64)
	for _, at := range []int{w.leaf("a", "b"), w.inner([]int{5, 6}, "m")} {
		n, _ := tree.Page(w.x, at)
		for i := range n.Cells {
			n.Cells[i].Key = "changed"
		}
		for i := range n.Keys {
			n.Keys[i] = "changed"
		}
		for i := range n.Kids {
			n.Kids[i] = 9
		}
		if m, e := tree.Page(w.x, at); alike(n, m) || e != api.OK {
			t.Error(m, e)
		}
	}
}

// values asks that Value answers a text, and an error's number.
func values(t *testing.T, x *pager.Tx, c api.Cell, want string, e api.Errno) {
	t.Helper()
	if got, f := tree.Value(x, c); got != want || f != e {
		t.Errorf("Value of %v: %q, %d, not %q, %d", c, got, f, want, e)
	}
}

// P13.1: cells whose value stands in them, and longer ones.
func TestValue(t *testing.T) {
	w := newTwin(t, 64)
	for n := range 41 {
		values(t, w.x, api.Cell{Key: "k", Value: text(n)}, text(n), api.OK)
	}
	for _, n := range sizes {
		if n > 40 {
			values(t, w.x, w.chain("k", text(n)), text(n), api.OK)
			w.x.Abort()
			w.begin()
		}
	}
}

// P13.1: chains of another length, that are broken, or were dropped: what over.Get answers.
func TestValueBroken(t *testing.T) {
	w := newTwin(t, 64)
	c := w.chain("k", text(600))
	for _, long := range append([]int{-1, 3, 599, 601, 2001, 1 << 40}, sizes...) {
		for _, first := range append([]int{1, 2, 3, 4}, noPages...) {
			if long == 0 && first == 0 {
				continue
			}
			want, e := over.Get(w.x, first, long)
			values(t, w.x, api.Cell{Key: "k", First: first, Long: long}, want, e)
		}
	}
	for _, at := range []int{1, 2, 3} {
		_, body, _ := w.x.Read(at)
		w.is(w.x.Write(at, 1, body), api.OK)
		values(t, w.x, c, "", api.ErrBroken)
		w.is(w.x.Write(at, 2, body[:len(body)-1]), api.OK)
		values(t, w.x, c, "", api.ErrBroken)
		w.is(w.x.Write(at, 2, body), api.OK)
		values(t, w.x, c, text(600), api.OK)
	}
	w.is(w.x.Drop(2), api.OK)
	values(t, w.x, c, "", api.ErrBroken)
	w.x.Abort()
	w.begin()
	c = w.chain("k", text(600))
	w.is(over.Drop(w.x, c.First), api.OK)
	values(t, w.x, c, "", api.ErrBroken)
}

// P13.1, P13.4: transactions that are none, or over, or whose pager is dead.
func TestValueErrors(t *testing.T) {
	w := newTwin(t, 64)
	short := api.Cell{Key: "k", Value: "x"}
	c := w.chain("k", text(600))
	for _, x := range []*pager.Tx{nil, {}} {
		values(t, x, c, "", api.ErrNil)
		values(t, x, short, "", api.ErrNil)
		values(t, x, api.Cell{}, "", api.ErrNil)
	}
	w.commit()
	x := w.x
	w.x.Abort()
	w.begin()
	values(t, x, c, "", api.ErrGone)
	values(t, x, short, "x", api.OK)
	w.d.Arm(2)
	values(t, w.x, c, "", api.ErrOff)
	values(t, w.x, c, "", api.ErrDead)
	values(t, w.x, short, "x", api.OK)
}
