package tree_test

import (
	"maps"
	"slices"
	"strings"
	"testing"

	"foyer/api"
	"foyer/disk"
	"foyer/node"
	"foyer/over"
	"foyer/pager"
	"foyer/tree"
)

// page is what stands in a page.
type page struct {
	kind int
	body string
}

// plain is the chapter's words of which trees stand, gone through one by one.
type plain struct {
	x *pager.Tx
	// reached is how often each page is reached, as a node or in a chain.
	reached map[int]int
	// deep are the depths of the leaves.
	deep   map[int]bool
	stands bool
	pairs  []api.Pair
}

// look goes through a tree.
func look(x *pager.Tx, root int) *plain {
	m := &plain{x: x, reached: map[int]int{}, deep: map[int]bool{}, stands: true}
	if root != 0 {
		m.keys(root, 0)
	}
	m.stands = m.stands && len(m.deep) <= 1
	for _, n := range m.reached {
		m.stands = m.stands && n == 1
	}
	if !m.stands {
		m.reached, m.pairs = nil, nil
	}
	return m
}

// keys tells all keys in what is reached from a page.
func (m *plain) keys(at, depth int) []string {
	m.reached[at]++
	kind, body, e := m.x.Read(at)
	n, err := node.Get(body)
	if e != api.OK || kind != 1 || err != nil || m.reached[at] > 1 {
		m.stands = false
		return nil
	}
	all := slices.Clone(n.Keys)
	for i, kid := range n.Kids {
		for _, key := range m.keys(kid, depth+1) {
			if i < len(n.Keys) && key >= n.Keys[i] || i > 0 && key < n.Keys[i-1] {
				m.stands = false
			}
			all = append(all, key)
		}
	}
	for _, c := range n.Cells {
		m.deep[depth] = true
		m.pairs = append(m.pairs, api.Pair{Key: c.Key, Value: m.value(c)})
		all = append(all, c.Key)
	}
	return all
}

// value tells a cell's value.
func (m *plain) value(c api.Cell) string {
	if c.Long == 0 {
		return c.Value
	}
	value, e := over.Get(m.x, c.First, c.Long)
	pages, _ := over.Pages(m.x, c.First)
	m.stands = m.stands && e == api.OK
	for _, at := range pages {
		m.reached[at]++
	}
	return value
}

// pages are the pages that were reached, rising.
func (m *plain) pages() []int { return slices.Sorted(maps.Keys(m.reached)) }

// twin is a store with a tree, the pairs that it must have, and the pages of others.
type twin struct {
	*testing.T
	d      *disk.Disk
	p      *pager.Pager
	x      *pager.Tx
	root   int
	pairs  map[string]string
	others map[int]page
}

// newTwin is a fresh store of so many sectors, in a transaction.
func newTwin(t *testing.T, sectors int) *twin {
	t.Helper()
	w := &twin{T: t, d: disk.New(sectors), pairs: map[string]string{}, others: map[int]page{}}
	w.open()
	return w
}

// open opens the store anew, and begins a transaction.
func (w *twin) open() {
	w.Helper()
	p, e := pager.Open(w.d)
	w.is(e, api.OK)
	w.p = p
	w.begin()
}

// boot lets the transaction go, and the power, and opens the store anew.
func (w *twin) boot() {
	w.Helper()
	w.x.Abort()
	w.d.Arm(0)
	w.d.Barrier()
	w.d.Boot(nil)
	w.open()
}

// begin begins the next transaction.
func (w *twin) begin() {
	w.Helper()
	x, e := w.p.Begin()
	w.is(e, api.OK)
	w.x = x
}

// commit commits, and begins the next transaction.
func (w *twin) commit() {
	w.Helper()
	w.is(w.x.Commit(), api.OK)
	w.begin()
}

// is asks for an error's number.
func (w *twin) is(e, want api.Errno) {
	w.Helper()
	if e != want {
		w.Fatalf("%d, not %d", e, want)
	}
}

// other makes a page of others.
func (w *twin) other(kind int, body string) int {
	w.Helper()
	at, e := w.x.New(kind, body)
	w.is(e, api.OK)
	w.others[at] = page{kind, body}
	return at
}

// node makes a page of a node by hand.
func (w *twin) node(n api.Node) int {
	w.Helper()
	body, e := node.Put(n)
	w.is(e, api.OK)
	at, e := w.x.New(1, body)
	w.is(e, api.OK)
	return at
}

// leaf makes a leaf by hand, of keys whose values are short.
func (w *twin) leaf(keys ...string) int {
	w.Helper()
	n := api.Node{Leaf: true}
	for _, key := range keys {
		n.Cells = append(n.Cells, api.Cell{Key: key, Value: "of " + key[:1]})
	}
	return w.node(n)
}

// inner makes a node that is no leaf by hand.
func (w *twin) inner(kids []int, keys ...string) int {
	w.Helper()
	return w.node(api.Node{Keys: keys, Kids: kids})
}

// chain makes the pages of a longer value by hand, and tells its cell.
func (w *twin) chain(key, value string) api.Cell {
	w.Helper()
	first, e := over.Put(w.x, value)
	w.is(e, api.OK)
	return api.Cell{Key: key, First: first, Long: len(value)}
}

// rooted takes a tree that was made by hand, with the pairs that it has.
func (w *twin) rooted(root int) {
	w.Helper()
	w.root = root
	for _, pair := range look(w.x, root).pairs {
		w.pairs[pair.Key] = pair.Value
	}
	w.whole()
}

// put puts a pair.
func (w *twin) put(key, value string) {
	w.Helper()
	root, e := tree.Put(w.x, w.root, key, value)
	w.is(e, api.OK)
	w.root, w.pairs[key] = root, value
	w.whole()
}

// drop drops a key, which is there, or not.
func (w *twin) drop(key string) {
	w.Helper()
	_, want := w.pairs[key]
	root, had, e := tree.Drop(w.x, w.root, key)
	w.is(e, api.OK)
	if had != want || !had && root != w.root {
		w.Fatalf("Drop of %q: %d behind %d, %t", key, root, w.root, had)
	}
	if had {
		w.root = root
		delete(w.pairs, key)
		w.whole()
	}
}

// get asks for a key, which is there, or not.
func (w *twin) get(key string) {
	w.Helper()
	want, is := w.pairs[key]
	if value, there, e := tree.Get(w.x, w.root, key); value != want || there != is || e != api.OK {
		w.Fatalf("Get of %q: %q, %t, %d, not %q, %t", key, value, there, e, want, is)
	}
}

// sorted are the pairs that the tree must have, in order.
func (w *twin) sorted() []api.Pair {
	var l []api.Pair
	for _, key := range slices.Sorted(maps.Keys(w.pairs)) {
		l = append(l, api.Pair{Key: key, Value: w.pairs[key]})
	}
	return l
}

// whole asks that the tree stands, with just its pairs, in pages that no one else has, and that all other pages are as they were.
func (w *twin) whole() {
	w.Helper()
	m := look(w.x, w.root)
	if !m.stands {
		w.Fatal("the tree does not stand")
	}
	want := w.sorted()
	if !slices.Equal(m.pairs, want) {
		w.Fatalf("the pairs %v, not %v", m.pairs, want)
	}
	if all, e := tree.All(w.x, w.root); !slices.Equal(all, want) || e != api.OK {
		w.Fatalf("All: %v, %d, not %v", all, e, want)
	}
	pages, e := tree.Check(w.x, w.root)
	if !slices.Equal(pages, m.pages()) || e != api.OK {
		w.Fatalf("Check: %v, %d, not %v", pages, e, m.pages())
	}
	if (len(want) == 0) != (w.root == 0) {
		w.Fatalf("%d pairs, the root %d", len(want), w.root)
	}
	for at, p := range w.others {
		if kind, body, e := w.x.Read(at); kind != p.kind || body != p.body || e != api.OK {
			w.Fatalf("page %d: %d, %q, %d", at, kind, body, e)
		}
		pages = append(pages, at)
	}
	slices.Sort(pages)
	if !slices.Equal(pages, w.x.Pages()) {
		w.Fatalf("%v stand, not %v", w.x.Pages(), pages)
	}
}

// finds asks for each key that is there, and for keys beside each.
func (w *twin) finds() {
	w.Helper()
	for key := range w.pairs {
		for _, k := range []string{key, key + "\x00", key[:len(key)-1], key[1:], key[:len(key)-1] + string([]byte{key[len(key)-1] + 1}), key[:len(key)-1] + string([]byte{key[len(key)-1] - 1})} {
			w.get(k)
		}
	}
	for _, k := range []string{"", "\x00", "\xff", strings.Repeat("\xff", 40), strings.Repeat("a", 41), strings.Repeat("\xff", 300)} {
		w.get(k)
	}
}

// deep tells how many nodes are above each other in the tree.
func (w *twin) deep() int {
	w.Helper()
	n := 0
	for at := w.root; at != 0; n++ {
		p, e := tree.Page(w.x, at)
		w.is(e, api.OK)
		at = 0
		if !p.Leaf {
			at = p.Kids[0]
		}
	}
	return n
}

// text is a text of n bytes, of which each is another one than those about it, and 0 and 255 are among them.
func text(n int) string {
	var b strings.Builder
	for i := range n {
		b.WriteByte(byte(255 - i*7 - i/256))
	}
	return b.String()
}

// sizes are lengths of values, at each edge of a cell and of a page of a chain.
var sizes = []int{0, 1, 2, 39, 40, 41, 42, 237, 238, 239, 240, 254, 255, 256, 475, 476, 477, 714, 715, 952, 953, 1190, 1191, 1428, 1429, 1666, 1667, 1904, 1905, 1999, 2000}
