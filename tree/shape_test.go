package tree_test

import (
	"slices"
	"strings"
	"testing"

	"foyer/api"
	"foyer/tree"
)

// shape tells a tree as a text: the first letters of keys, in brackets for each node.
func (w *twin) shape() string {
	w.Helper()
	return w.shapeOf(w.root)
}

func (w *twin) shapeOf(at int) string {
	w.Helper()
	if at == 0 {
		return ""
	}
	n, e := tree.Page(w.x, at)
	w.is(e, api.OK)
	s := "("
	for _, c := range n.Cells {
		s += c.Key[:1]
	}
	for i, kid := range n.Kids {
		if i > 0 {
			s += n.Keys[i-1][:1]
		}
		s += w.shapeOf(kid)
	}
	return s + ")"
}

// thick asks that no node below another one has less than a third of a page.
func (w *twin) thick() {
	w.Helper()
	pages, _ := tree.Check(w.x, w.root)
	for _, at := range pages {
		if kind, body, _ := w.x.Read(at); kind == 1 && at != w.root && len(body) < 80 {
			w.Fatalf("page %d has %d bytes", at, len(body))
		}
	}
}

// shaped asks for the shape of the tree.
func (w *twin) shaped(want string) {
	w.Helper()
	if s := w.shape(); s != want {
		w.Fatalf("%s, not %s", s, want)
	}
}

// big makes a leaf of keys of 40 bytes with values of 36, each of which begins with a letter: three of them fit a page, and two are none that is thin.
func (w *twin) big(letters string) int {
	w.Helper()
	n := api.Node{Leaf: true}
	for _, c := range letters {
		n.Cells = append(n.Cells, api.Cell{Key: long(string(c)), Value: text(36)})
	}
	return w.node(n)
}

// long is a key of 40 bytes.
func long(s string) string { return s + strings.Repeat("+", 40-len(s)) }

// P13.3: leaves that are joined, with the one ahead, or, the first one, with the one behind; the last two leave a tree of one.
func TestJoined(t *testing.T) {
	for drop, want := range map[string]string{"b": "((acd)f(fg))", "d": "((abc)f(fg))", "f": "((ab)c(cdg))"} {
		w := newTwin(t, 64)
		w.rooted(w.inner([]int{w.leaf("a", "b"), w.leaf("c", "d"), w.leaf("f", "g")}, "c", "f"))
		w.drop(drop)
		w.shaped(want)
		w.finds()
	}
	w := newTwin(t, 64)
	w.rooted(w.inner([]int{w.leaf("a"), w.leaf("c", "d")}, "b"))
	w.drop("d")
	w.shaped("(ac)")
	w.drop("a")
	w.drop("c")
	w.shaped("")
	for drop, want := range map[string]string{"a": "(c)", "c": "(a)"} {
		w := newTwin(t, 64)
		w.rooted(w.inner([]int{w.leaf("a"), w.leaf("c")}, "b"))
		w.drop(drop)
		w.shaped(want)
	}
}

// P13.3: a leaf takes from the one beside it, on either side.
func TestTakes(t *testing.T) {
	w := newTwin(t, 64)
	w.rooted(w.inner([]int{w.big("abc"), w.big("fg")}, "d"))
	w.drop(long("f"))
	w.shaped("((abc)d(g))")
	w.drop(long("g"))
	w.shaped("(abc)")
	w = newTwin(t, 64)
	w.rooted(w.inner([]int{w.big("abc"), w.leaf("f", "g")}, "d"))
	w.drop("f")
	w.shaped("((ab)c(cg))")
	w.finds()
	w.drop("g")
	w.shaped("((ab)c(c))")
	w = newTwin(t, 64)
	w.rooted(w.inner([]int{w.leaf("a", "b"), w.big("fgh")}, "d"))
	w.drop("b")
	w.shaped("((af)g(gh))")
	w.finds()
}

// wide is a tree whose root has five keys of 40 bytes, and two of one byte between a full leaf, one that is thin, and a full one.
func wide(t *testing.T, above func(w *twin, root int) int) *twin {
	t.Helper()
	w := newTwin(t, 1024)
	kids := []int{w.big("abc"), w.leaf("f", "g"), w.big("mno")}
	keys := []string{"d", "k"}
	for _, c := range "pqrst" {
		kids, keys = append(kids, w.big(string(c))), append(keys, long(string(c)))
	}
	w.rooted(above(w, w.inner(kids, keys...)))
	return w
}

// P13.3: the key between becomes longer, so that the root is parted by a Drop.
func TestTakesLonger(t *testing.T) {
	w := wide(t, func(w *twin, root int) int { return root })
	w.drop("f")
	w.shaped("(((ab)c(cg)k(mno)p(p))q((q)r(r)s(s)t(t)))")
	w.finds()
	w.drop("g")
	w.finds()
	// In a Put, too, behind which the leaf is still thin.
	w = wide(t, func(w *twin, root int) int { return root })
	w.put("g", "")
	w.shaped("(((ab)c(cfg)k(mno)p(p))q((q)r(r)s(s)t(t)))")
	w.finds()
}

// P13.3: likewise, of a node below another one: that has one Kid more then, or is parted, too.
func TestTakesLongerBelow(t *testing.T) {
	w := wide(t, func(w *twin, root int) int {
		return w.inner([]int{root, w.inner([]int{w.big("u"), w.big("v"), w.big("w")}, long("v"), long("w"))}, long("u"))
	})
	w.drop("f")
	w.shaped("(((ab)c(cg)k(mno)p(p))q((q)r(r)s(s)t(t))u((u)v(v)w(w)))")
	w.finds()
	w = wide(t, func(w *twin, root int) int {
		kids, keys := []int{root}, []string(nil)
		for _, c := range "uvwxy" {
			kids = append(kids, w.inner([]int{w.big(string(c)), w.leaf(string(c) + "-"), w.leaf(string(c) + ".")}, string(c)+",", string(c)+"."))
			keys = append(keys, long(string(c)))
		}
		return w.inner(kids, keys...)
	})
	w.drop("f")
	w.finds()
	if w.deep() != 4 {
		t.Errorf("%d levels: %s", w.deep(), w.shape())
	}
}

// P13.3: a node that is no leaf has one Kid left: it is joined with the one beside it, or takes from that.
func TestOneKid(t *testing.T) {
	build := func(n int) *twin {
		w := newTwin(t, 1024)
		few := func(letters string) int {
			var kids []int
			var keys []string
			for i, c := range letters {
				kids = append(kids, w.big(string(c)))
				if i > 0 {
					keys = append(keys, long(string(c)))
				}
			}
			return w.inner(kids, keys...)
		}
		w.rooted(w.inner([]int{few("ab"), few("cdefgh"[:n]), few("ij")}, long("c"), long("i")))
		return w
	}
	for _, drop := range []string{"a", "b", "i", "j"} {
		for n := 2; n <= 6; n++ {
			w := build(n)
			w.drop(long(drop))
			w.finds()
			n, e := tree.Page(w.x, w.root)
			w.is(e, api.OK)
			for _, kid := range n.Kids {
				if n, e := tree.Page(w.x, kid); len(n.Keys) < 1 || e != api.OK {
					t.Fatal(n, e)
				}
			}
		}
	}
	w := build(2)
	for _, key := range "abcdij" {
		w.drop(long(string(key)))
	}
	w.shaped("")
	w = build(6)
	w.drop(long("a"))
	w.shaped("(((b)c(c)d(d))e((e)f(f)g(g)h(h))i((i)j(j)))")
}

// P13.3: a Drop of a key that is not there changes nothing, also where nodes are thin.
func TestDropNone(t *testing.T) {
	w := newTwin(t, 64)
	w.rooted(w.inner([]int{w.inner([]int{w.leaf("a"), w.leaf("c")}, "b"), w.inner([]int{w.leaf("e"), w.leaf("g")}, "f")}, "d"))
	w.commit()
	was := w.x.Pages()
	for range 8 {
		for _, key := range []string{"", "\x00", "aa", "b", "d", "dd", "f", "h", "\xff", text(41)} {
			w.drop(key)
		}
	}
	w.shaped("(((a)b(c))d((e)f(g)))")
	if !slices.Equal(was, w.x.Pages()) {
		t.Error(was, w.x.Pages())
	}
	left := w.p.Left()
	w.is(w.x.Commit(), api.OK)
	if w.p.Epoch() != 1 || w.p.Left() != left {
		t.Errorf("epoch %d, %d are left, not %d", w.p.Epoch(), w.p.Left(), left)
	}
}

// P13.3, P13.5: trees made by hand with as few cells and keys as may be, of many levels: each pair is dropped, and new ones are put.
func TestThin(t *testing.T) {
	for levels := 1; levels <= 6; levels++ {
		build := func() (*twin, []string) {
			w := newTwin(t, 1024)
			var keys []string
			var make func(from, levels int) int
			make = func(from, levels int) int {
				if levels == 1 {
					keys = append(keys, string([]byte{byte(from)}))
					return w.leaf(string([]byte{byte(from)}))
				}
				half := 1 << (levels - 2)
				return w.inner([]int{make(from, levels-1), make(from+half, levels-1)}, string([]byte{byte(from + half)}))
			}
			w.rooted(make(1, levels))
			return w, keys
		}
		_, keys := build()
		for _, order := range orders(len(keys)) {
			w, _ := build()
			for _, i := range order {
				w.drop(keys[i])
				w.finds()
			}
			w.shaped("")
			w, _ = build()
			for _, i := range order {
				w.put(keys[i], text(i))
				w.put(keys[i]+"!", text(3*i))
			}
			w.finds()
		}
	}
}

// P13.3: a leaf of just 240 bytes, and one that would have one more.
func TestFull(t *testing.T) {
	w := newTwin(t, 64)
	for _, key := range []string{"a", "b", "c", "d", "e"} {
		w.put(key, text(40))
	}
	for n := range 21 {
		w.put("f", text(n))
		w.shaped("(abcdef)")
	}
	if _, body, e := w.x.Read(w.root); len(body) != 240 {
		t.Error(len(body), e)
	}
	w.put("f", text(21))
	w.shaped("((abc)d(def))")
	w.finds()
}
