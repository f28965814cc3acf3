package scan

import (
	"iter"
	"slices"

	"foyer/api"
	"foyer/pager"
	"foyer/tree"
)

// none is the root of the tree without pairs.
const none = 0

// walk is a way through the cells of a tree whose keys are in a span. It is given up by a panic with an error's number.
type walk struct {
	t    *pager.Tx
	keys span
	// isBack tells that it goes from the greatest key to the least one.
	isBack bool
	// read is how many pages of nodes were read.
	read int
}

// walked goes through a tree, and tells why that was given up, if it was.
func walked(t *pager.Tx, through func()) (e api.Errno) {
	// Of the root 0 no page is read that would tell this.
	if _, e := tree.Page(t, none); e == api.ErrNil {
		return e
	}
	defer func() {
		switch wrong := recover().(type) {
		case nil:
		case api.Errno:
			e = wrong
		default:
			panic(wrong)
		}
	}()
	through()
	return api.OK
}

// must gives a walk up by an error.
func must(e api.Errno) {
	if e != api.OK {
		panic(e)
	}
}

// cells tells the cells of a tree to which the walk comes, one behind the other.
func (w *walk) cells(root int) iter.Seq[api.Cell] {
	var below func(page int) iter.Seq[api.Cell]
	below = func(page int) iter.Seq[api.Cell] {
		return func(yield func(api.Cell) bool) {
			cells, kids := w.node(page)
			for _, c := range cells {
				if !yield(c) {
					return
				}
			}
			for _, kid := range kids {
				for c := range below(kid) {
					if !yield(c) {
						return
					}
				}
			}
		}
	}
	if root == none {
		return func(func(api.Cell) bool) {}
	}
	return below(root)
}

// node reads a page, and tells its cells, or its Kids, that count, as the walk comes to them.
func (w *walk) node(page int) ([]api.Cell, []int) {
	// A tree that stands has no more pages, so this one leads back, or to one page over and over.
	if w.read == api.MaxPage {
		panic(api.ErrBroken)
	}
	w.read++
	n, e := tree.Page(w.t, page)
	must(e)
	cells, kids := w.keys.cut(n)
	if w.isBack {
		slices.Reverse(cells)
		slices.Reverse(kids)
	}
	return cells, kids
}

// pair tells the pair of a cell.
func (w *walk) pair(c api.Cell) api.Pair {
	value, e := tree.Value(w.t, c)
	must(e)
	return api.Pair{Key: c.Key, Value: value}
}
