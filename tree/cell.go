package tree

import (
	"slices"

	"foyer/api"
	"foyer/node"
	"foyer/over"
)

// isLonger tells whether a cell's value stands in a chain of pages.
func isLonger(c api.Cell) bool { return c.First != 0 || c.Long != 0 }

// with tells a leaf in which a key has a value.
func (w *walk) with(leaf api.Node, key, value string) api.Node {
	leaf, _ = w.without(leaf, key)
	i, _ := node.Find(leaf, key)
	leaf.Cells = slices.Insert(leaf.Cells, i, w.cell(key, value))
	return leaf
}

// without tells a leaf in which a key has no value, and whether it had one. The pages of that are dropped.
func (w *walk) without(leaf api.Node, key string) (api.Node, bool) {
	i, found := node.Find(leaf, key)
	if !found {
		return leaf, false
	}
	if c := leaf.Cells[i]; isLonger(c) {
		must(over.Drop(w.t, c.First), c.First)
	}
	leaf.Cells = slices.Delete(leaf.Cells, i, i+1)
	return leaf, true
}

// cell makes a cell, and the pages that its value needs.
func (w *walk) cell(key, value string) api.Cell {
	if len(value) <= api.MaxInline {
		return api.Cell{Key: key, Value: value}
	}
	page, e := over.Put(w.t, value)
	must(e, page)
	return api.Cell{Key: key, First: page, Long: len(value)}
}

// value tells a cell's value.
func (w *walk) value(c api.Cell) string {
	value, e := Value(w.t, c)
	must(e, c.First)
	return value
}
