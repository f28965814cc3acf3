package scan_test

import (
	"maps"
	"slices"
	"strings"
	"testing"

	"foyer/api"
	"foyer/disk"
	"foyer/node"
	"foyer/over"
	"foyer/pager"
	"foyer/scan"
	"foyer/tree"
)

// plain is sorted pairs, of which the chapter's words are asked one by one.
type plain []api.Pair

// at is the pair with the least key that is not below a key.
func (m plain) at(key string) (api.Pair, bool) {
	for _, pair := range m {
		if pair.Key >= key {
			return pair, true
		}
	}
	return api.Pair{}, false
}

// after is that with the least key above a key.
func (m plain) after(key string) (api.Pair, bool) {
	for _, pair := range m {
		if pair.Key > key {
			return pair, true
		}
	}
	return api.Pair{}, false
}

// before is that with the greatest key below a key.
func (m plain) before(key string) (is api.Pair, found bool) {
	for _, pair := range m {
		if pair.Key < key {
			is, found = pair, true
		}
	}
	return is, found
}

// last is that with the greatest key.
func (m plain) last() (api.Pair, bool) {
	if len(m) == 0 {
		return api.Pair{}, false
	}
	return m[len(m)-1], true
}

// span are those whose keys are in a span.
func (m plain) span(from, to string) (all []api.Pair) {
	for _, pair := range m {
		if pair.Key >= from && (to == "" || pair.Key < to) {
			all = append(all, pair)
		}
	}
	return all
}

// store is a store with a tree, and the pairs that it has.
type store struct {
	*testing.T
	d    *disk.Disk
	p    *pager.Pager
	x    *pager.Tx
	root int
	has  plain
}

// newStore is a fresh store of so many sectors, in a transaction.
func newStore(t *testing.T, sectors int) *store {
	t.Helper()
	w := &store{T: t, d: disk.New(sectors)}
	w.open()
	return w
}

// open opens the store anew, and begins a transaction.
func (w *store) open() {
	w.Helper()
	p, e := pager.Open(w.d)
	w.is(e, api.OK)
	w.p = p
	w.begin()
}

// begin begins the next transaction.
func (w *store) begin() {
	w.Helper()
	x, e := w.p.Begin()
	w.is(e, api.OK)
	w.x = x
}

// laid commits, and opens the store anew, so that nothing is read but from the disk.
func (w *store) laid() *store {
	w.Helper()
	w.is(w.x.Commit(), api.OK)
	w.open()
	return w
}

// is asks for an error's number.
func (w *store) is(e, want api.Errno) {
	w.Helper()
	if e != want {
		w.Fatalf("%d, not %d", e, want)
	}
}

// page makes a page by hand.
func (w *store) page(kind int, body string) int {
	w.Helper()
	at, e := w.x.New(kind, body)
	w.is(e, api.OK)
	return at
}

// node makes a page of a node by hand.
func (w *store) node(n api.Node) int {
	w.Helper()
	body, e := node.Put(n)
	w.is(e, api.OK)
	return w.page(1, body)
}

// cells makes a leaf of cells by hand.
func (w *store) cells(cells ...api.Cell) int {
	w.Helper()
	return w.node(api.Node{Leaf: true, Cells: cells})
}

// leaf makes a leaf by hand, of keys whose values are short.
func (w *store) leaf(keys ...string) int {
	w.Helper()
	var cells []api.Cell
	for _, key := range keys {
		cells = append(cells, api.Cell{Key: key, Value: "of " + key[:1]})
	}
	return w.cells(cells...)
}

// inner makes a node that is no leaf by hand.
func (w *store) inner(kids []int, keys ...string) int {
	w.Helper()
	return w.node(api.Node{Keys: keys, Kids: kids})
}

// later makes a page that is to be told later what it is.
func (w *store) later() int {
	w.Helper()
	return w.page(1, "later")
}

// told tells a page what it is.
func (w *store) told(at int, n api.Node) {
	w.Helper()
	body, e := node.Put(n)
	w.is(e, api.OK)
	w.is(w.x.Write(at, 1, body), api.OK)
}

// chain makes the pages of a longer value by hand, and tells its cell.
func (w *store) chain(key, value string) api.Cell {
	w.Helper()
	first, e := over.Put(w.x, value)
	w.is(e, api.OK)
	return api.Cell{Key: key, First: first, Long: len(value)}
}

// rooted takes a tree that was made by hand, and stands.
func (w *store) rooted(root int) *store {
	w.Helper()
	_, e := tree.Check(w.x, root)
	w.is(e, api.OK)
	all, e := tree.All(w.x, root)
	w.is(e, api.OK)
	w.root, w.has = root, all
	return w
}

// puts puts pairs, in the order of their keys, each with a value that hangs on its place.
func (w *store) puts(keys []string, value func(i int) string) *store {
	w.Helper()
	pairs := map[string]string{}
	for i, key := range keys {
		v := value(i)
		root, e := tree.Put(w.x, w.root, key, v)
		w.is(e, api.OK)
		w.root, pairs[key] = root, v
	}
	w.has = nil
	for _, key := range slices.Sorted(maps.Keys(pairs)) {
		w.has = append(w.has, api.Pair{Key: key, Value: pairs[key]})
	}
	return w
}

// deep tells how many nodes are above each other in the tree.
func (w *store) deep() int {
	w.Helper()
	n := 0
	for at := w.root; at != 0; n++ {
		p, e := tree.Page(w.x, at)
		w.is(e, api.OK)
		at = 0
		if !p.Leaf {
			at = p.Kids[0]
		}
	}
	return n
}

// body is what stands in a page.
type body struct {
	kind int
	text string
}

// bodies are all pages that stand, and what stands there.
func (w *store) bodies() map[int]body {
	w.Helper()
	m := map[int]body{}
	for _, at := range w.x.Pages() {
		kind, text, e := w.x.Read(at)
		w.is(e, api.OK)
		m[at] = body{kind, text}
	}
	return m
}

// unchanged asks that all pages are as they were, and tells them.
func (w *store) unchanged(was map[int]body) {
	w.Helper()
	if now := w.bodies(); !maps.Equal(now, was) {
		w.Fatalf("pages are %v, not %v", now, was)
	}
}

// one asks for a pair that a call answers.
func (w *store) one(name, key string, pair api.Pair, is bool, e api.Errno, want api.Pair, there bool) {
	w.Helper()
	if pair != want || is != there || e != api.OK {
		w.Fatalf("%s of %q: %q, %t, %d, not %q, %t", name, key, pair, is, e, want, there)
	}
}

// finds asks At, After and Before of a key, and Last.
func (w *store) finds(key string) {
	w.Helper()
	pair, is, e := scan.At(w.x, w.root, key)
	want, there := w.has.at(key)
	w.one("At", key, pair, is, e, want, there)
	pair, is, e = scan.After(w.x, w.root, key)
	want, there = w.has.after(key)
	w.one("After", key, pair, is, e, want, there)
	pair, is, e = scan.Before(w.x, w.root, key)
	want, there = w.has.before(key)
	w.one("Before", key, pair, is, e, want, there)
	pair, is, e = scan.Last(w.x, w.root)
	want, there = w.has.last()
	w.one("Last", key, pair, is, e, want, there)
}

// ranges asks Range and Count of a span, with each most that is telling.
func (w *store) ranges(from, to string) {
	w.Helper()
	want := w.has.span(from, to)
	if n, e := scan.Count(w.x, w.root, from, to); n != len(want) || e != api.OK {
		w.Fatalf("Count from %q to %q: %d, %d, not %d", from, to, n, e, len(want))
	}
	for _, most := range []int{0, 1, 2, len(want) / 2, len(want) - 1, len(want), len(want) + 1, 1 << 20, 1<<63 - 1} {
		if most < 0 {
			continue
		}
		got, e := scan.Range(w.x, w.root, from, to, most)
		if first := want[:min(most, len(want))]; !slices.Equal(got, first) || e != api.OK {
			w.Fatalf("Range from %q to %q, at most %d: %q, %d, not %q", from, to, most, got, e, first)
		}
	}
}

// all asks everything of all keys about those that are there.
func (w *store) all() *store {
	w.Helper()
	was := w.bodies()
	keys := w.beside()
	for _, key := range keys {
		w.finds(key)
	}
	for _, from := range keys {
		for _, to := range keys {
			w.ranges(from, to)
		}
	}
	w.unchanged(was)
	return w
}

// beside are the keys that are there, texts beside each one, the empty one, and some below and above all.
func (w *store) beside() []string {
	l := []string{"", "\x00", "\xff", strings.Repeat("\xff", 40), strings.Repeat("\xff", 41)}
	for _, pair := range w.has {
		key := pair.Key
		short, last := key[:len(key)-1], key[len(key)-1]
		l = append(l, key, key+"\x00", key+"\xff", short, short+string([]byte{last - 1, 0xff}), short+string([]byte{last + 1}))
	}
	slices.Sort(l)
	return slices.Compact(l)
}

// text is a text of n bytes, of which each is another one than those about it, and 0 and 255 are among them.
func text(n int) string {
	var b strings.Builder
	for i := range n {
		b.WriteByte(byte(255 - i*7 - i/256))
	}
	return b.String()
}

// sizes are lengths of values, at each edge of a cell and of a page of a chain.
var sizes = []int{0, 1, 39, 40, 41, 42, 237, 238, 239, 240, 476, 477, 1904, 1905, 1999, 2000}

// sized tells a value of one of sizes.
func sized(i int) string { return text(sizes[i%len(sizes)]) }

// shorter tells a value that stands in its cell.
func shorter(i int) string { return text(i % 41) }
