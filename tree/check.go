package tree

import (
	"foyer/api"
	"foyer/over"
)

// span is the keys that may be in what a Kid leads to: those not below from, and, if to is not empty, below to.
type span struct {
	from, to string
}

// has tells whether a key is one of them.
func (s span) has(key string) bool {
	return key >= s.from && (s.to == "" || key < s.to)
}

// of tells those of the Kid i of a node with such keys.
func (s span) of(i int, keys []string) span {
	if i > 0 {
		s.from = keys[i-1]
	}
	if i < len(keys) {
		s.to = keys[i]
	}
	return s
}

// check asks whether what is reached from a page stands, and tells how many pages deep it is.
func (w *walk) check(page int, keys span) (deep int) {
	n := w.node(page)
	for _, key := range n.Keys {
		stands(keys.has(key), page)
	}
	for _, c := range n.Cells {
		stands(keys.has(c.Key), page)
		w.checkValue(c)
	}
	for i, kid := range n.Kids {
		below := w.check(kid, keys.of(i, n.Keys))
		stands(i == 0 || below == deep, page)
		deep = below
	}
	return deep + 1
}

// checkValue asks whether a cell's longer value is there, in pages of its own.
func (w *walk) checkValue(c api.Cell) {
	if !isLonger(c) {
		return
	}
	w.value(c)
	pages, e := over.Pages(w.t, c.First)
	must(e, c.First)
	for _, page := range pages {
		w.comeTo(page)
	}
}
