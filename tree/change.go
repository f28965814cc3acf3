package tree

import (
	"slices"

	"foyer/api"
	"foyer/node"
)

// thinSize is how many bytes a node below another one must have: a thin one is joined with the one beside it, or takes from that. A third of a page is so few that no part of the best cut is thin, where both are too long for one page.
const thinSize = api.MaxBody / 3

// change lets step change the leaf of a key, and tells the root behind it.
func (w *walk) change(root int, key string, step func(api.Node) (api.Node, bool)) int {
	n, changed := w.down(root, key, step)
	if !changed {
		return root
	}
	var pages []int
	if root != none {
		pages = []int{root}
	}
	if isEmpty(n) {
		// Of a node without keys the one Kid is left.
		w.drop(pages)
		return first(n.Kids)
	}
	keys, kids := w.lay(n, pages)
	if len(keys) == 0 {
		return kids[0]
	}
	return w.add(api.Node{Keys: keys, Kids: kids})
}

// withKid lays the Kid i of a node, which was changed, and tells the node behind that, and whether it is another one then.
func (w *walk) withKid(n api.Node, i int, kid api.Node) (api.Node, bool) {
	end := i + 1
	if isThin(kid) {
		i, end, kid = w.widened(n, i, kid)
	}
	keys, kids := w.lay(kid, n.Kids[i:end])
	// As many keys are as many pages: the same ones.
	if slices.Equal(keys, n.Keys[i:end-1]) {
		return n, false
	}
	n.Keys = slices.Replace(n.Keys, i, end-1, keys...)
	n.Kids = slices.Replace(n.Kids, i, end, kids...)
	return n, true
}

// widened tells the whole of a node's Kid i and the one beside it, as Kids from from up to end.
func (w *walk) widened(n api.Node, i int, kid api.Node) (from, end int, wide api.Node) {
	if i > 0 {
		page := n.Kids[i-1]
		return i - 1, i + 1, whole(w.node(page), kid, n.Keys[i-1], page)
	}
	page := n.Kids[i+1]
	return i, i + 2, whole(kid, w.node(page), n.Keys[i], page)
}

// whole tells the node of which a and b are the parts, with the key between, of any length. Page is that of one of them.
func whole(a, b api.Node, between string, page int) api.Node {
	stands(a.Leaf == b.Leaf, page)
	if a.Leaf {
		a.Cells = append(a.Cells, b.Cells...)
		return a
	}
	a.Keys = append(append(a.Keys, between), b.Keys...)
	a.Kids = append(a.Kids, b.Kids...)
	return a
}

// isEmpty tells whether a node has no cells, or no keys.
func isEmpty(n api.Node) bool { return len(n.Cells) == 0 && len(n.Keys) == 0 }

// isThin tells whether a node has too few bytes.
func isThin(n api.Node) bool {
	if isEmpty(n) {
		return true
	}
	body, e := node.Put(n)
	return e == api.OK && len(body) < thinSize
}

// lay lays a node in place of pages, in two parts if it is too long, and tells the key between them, and their pages.
func (w *walk) lay(n api.Node, pages []int) (keys []string, kids []int) {
	parts := []api.Node{n}
	if !node.Fits(n) {
		a, b, key, e := node.Split(n)
		// Only in a tree that does not stand there is a node that can't be parted.
		stands(e == api.OK, first(pages))
		parts, keys = []api.Node{a, b}, []string{key}
	}
	if len(pages) > len(parts) {
		// This makes room, so it comes ahead of what needs some.
		w.drop(pages[len(parts):])
	}
	for i, part := range parts {
		if i < len(pages) {
			w.write(pages[i], part)
			kids = append(kids, pages[i])
		} else {
			kids = append(kids, w.add(part))
		}
	}
	return keys, kids
}

// bodyOf tells the body of a node that is laid in a page.
func bodyOf(n api.Node, page int) string {
	body, e := node.Put(n)
	stands(e == api.OK, page)
	return body
}

// write lays a node in a page.
func (w *walk) write(page int, n api.Node) {
	must(w.t.Write(page, Kind, bodyOf(n, page)), page)
}

// add lays a node in a new page, and tells that.
func (w *walk) add(n api.Node) int {
	page, e := w.t.New(Kind, bodyOf(n, none))
	must(e, page)
	return page
}

// drop lets pages stand nowhere.
func (w *walk) drop(pages []int) {
	for _, page := range pages {
		must(w.t.Drop(page), page)
	}
}

// first tells the first page of some, or none.
func first(pages []int) int {
	if len(pages) == 0 {
		return none
	}
	return pages[0]
}
