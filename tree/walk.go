package tree

import (
	"errors"
	"iter"

	"foyer/api"
	"foyer/node"
	"foyer/pager"
)

// walk is a way through a tree. It comes to no page twice, and so it ends, also where the tree does not stand. It is given up by a panic with a fault, whose place is the page at which something is wrong.
type walk struct {
	t    *pager.Tx
	come [api.MaxPage + 1]bool
}

// walked goes through a tree, and tells why that was given up, if it was.
func walked(t *pager.Tx, through func(*walk)) (e api.Errno) {
	if isNone(t) {
		return api.ErrNil
	}
	defer func() {
		switch wrong := recover().(type) {
		case nil:
		case error:
			var fault *api.Fault
			if !errors.As(wrong, &fault) {
				panic(wrong)
			}
			e = fault.Code
		default:
			panic(wrong)
		}
	}()
	through(&walk{t: t})
	return api.OK
}

// isNone tells whether a transaction is none. No page has the number 0, so nothing is read.
func isNone(t *pager.Tx) bool {
	_, _, e := t.Read(none)
	return e == api.ErrNil
}

// must gives a walk up by an error that was met at a page.
func must(e api.Errno, page int) {
	if e != api.OK {
		panic(&api.Fault{Code: e, At: page})
	}
}

// stands gives a walk up at a page where something is not as it is in a tree that stands.
func stands(is bool, page int) {
	if !is {
		must(api.ErrBroken, page)
	}
}

// node comes to a page, and tells its node.
func (w *walk) node(page int) api.Node {
	n, e := Page(w.t, page)
	must(e, page)
	w.comeTo(page)
	return n
}

// comeTo comes to a page that stands.
func (w *walk) comeTo(page int) {
	stands(!w.come[page], page)
	w.come[page] = true
}

// pages tells all pages to which it came, rising.
func (w *walk) pages() []int {
	var pages []int
	for page, come := range w.come {
		if come {
			pages = append(pages, page)
		}
	}
	return pages
}

// pairs tells all pairs of what is reached from a page, in order.
func (w *walk) pairs(page int) iter.Seq[api.Pair] {
	return func(yield func(api.Pair) bool) {
		if page == none {
			return
		}
		n := w.node(page)
		for _, c := range n.Cells {
			if !yield(api.Pair{Key: c.Key, Value: w.value(c)}) {
				return
			}
		}
		for _, kid := range n.Kids {
			for pair := range w.pairs(kid) {
				if !yield(pair) {
					return
				}
			}
		}
	}
}

// down goes down from a page to the leaf in which a key is, or would be, and does there what is to be done: step tells the leaf behind it, and whether it was changed. Down tells the same of the page's node, which is not laid yet.
func (w *walk) down(page int, key string, step func(api.Node) (api.Node, bool)) (api.Node, bool) {
	if page == none {
		return step(api.Node{Leaf: true})
	}
	n := w.node(page)
	if n.Leaf {
		return step(n)
	}
	i, _ := node.Find(n, key)
	kid, changed := w.down(n.Kids[i], key, step)
	if !changed {
		return n, false
	}
	return w.withKid(n, i, kid)
}
