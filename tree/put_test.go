package tree_test

import (
	"slices"
	"strings"
	"testing"

	"foyer/api"
	"foyer/over"
	"foyer/tree"
)

// The chapter's examples.
func TestExamples(t *testing.T) {
	w := newTwin(t, 64)
	it, e := tree.Put(w.x, 0, "b", "1")
	w.is(e, api.OK)
	it, e = tree.Put(w.x, it, "a", "2")
	w.is(e, api.OK)
	if all, e := tree.All(w.x, it); !slices.Equal(all, []api.Pair{{Key: "a", Value: "2"}, {Key: "b", Value: "1"}}) || e != api.OK {
		t.Error(all, e)
	}
	it, had, e := tree.Drop(w.x, it, "b")
	if !had || e != api.OK {
		t.Error(had, e)
	}
	if value, is, e := tree.Get(w.x, it, "b"); value != "" || is || e != api.OK {
		t.Error(value, is, e)
	}
	if now, had, e := tree.Drop(w.x, it, "a"); now != 0 || !had || e != api.OK {
		t.Error(now, had, e)
	}
	if now, e := tree.Put(w.x, 0, "", "x"); now != 0 || e != api.ErrArg {
		t.Error(now, e)
	}
	if pages, e := tree.Check(w.x, 0); len(pages) != 0 || e != api.OK {
		t.Error(pages, e)
	}
	for _, root := range noPages[1:] {
		if pages, e := tree.Check(w.x, root); len(pages) != 0 || e != api.ErrBroken {
			t.Error(pages, e)
		}
	}
	if l := w.x.Pages(); len(l) != 0 {
		t.Error(l)
	}
}

// P13.2, P13.3: the tree without pairs.
func TestNoPairs(t *testing.T) {
	w := newTwin(t, 64)
	w.whole()
	for _, key := range []string{"", "a", text(40), text(41), text(5000)} {
		w.get(key)
		w.drop(key)
	}
}

// P13.3: keys of all lengths.
func TestPutKeys(t *testing.T) {
	for _, n := range []int{1, 2, 39, 40} {
		w := newTwin(t, 64)
		w.put(text(n), "x")
		w.get(text(n))
		w.put("other", "y")
		w.put(strings.Repeat("\x00", n), "")
		w.put(strings.Repeat("\xff", n), text(41))
		w.finds()
	}
	w := newTwin(t, 64)
	for _, root := range []int{0, w.leaf("a"), -1, 900} {
		for _, key := range []string{"", text(41), text(42), text(255), text(256), text(256 + 7), text(1 << 16), text(1 << 20)} {
			for _, value := range []string{"", "x", text(2000), text(2001)} {
				if now, e := tree.Put(w.x, root, key, value); now != 0 || e != api.ErrArg {
					t.Errorf("Put of a key of %d bytes: %d, %d", len(key), now, e)
				}
			}
		}
	}
	if l := w.x.Pages(); len(l) != 1 {
		t.Error(l)
	}
}

// P13.3: values of all lengths.
func TestPutValues(t *testing.T) {
	for _, n := range sizes {
		w := newTwin(t, 64)
		w.put("k", text(n))
		w.get("k")
		want := 1
		if n > 40 {
			want += over.Need(n)
		}
		if l := w.x.Pages(); len(l) != want {
			t.Errorf("%d bytes: %v", n, l)
		}
		w.put("l", text(n))
		w.put("j", text(n))
		w.finds()
		w.drop("k")
		w.drop("j")
		w.drop("l")
		if w.root != 0 {
			t.Error(w.root)
		}
	}
	w := newTwin(t, 64)
	for _, root := range []int{0, w.leaf("a"), -1, 900} {
		for _, n := range []int{2001, 2002, 2142, 4000, 1 << 16, 1<<16 + 5, 1 << 20} {
			if now, e := tree.Put(w.x, root, "a", text(n)); now != 0 || e != api.ErrArg {
				t.Errorf("Put of %d bytes: %d, %d", n, now, e)
			}
		}
	}
	if l := w.x.Pages(); len(l) != 1 {
		t.Error(l)
	}
}

// P13.3: ErrArg is told ahead of what the transaction says.
func TestPutArg(t *testing.T) {
	w := newTwin(t, 64)
	x := w.x
	x.Abort()
	for _, g := range [][2]string{{"", "x"}, {text(41), "x"}, {"k", text(2001)}} {
		if now, e := tree.Put(x, 0, g[0], g[1]); now != 0 || e != api.ErrArg {
			t.Error(now, e)
		}
		if now, e := tree.Put(nil, 0, g[0], g[1]); now != 0 || e != api.ErrArg {
			t.Error(now, e)
		}
	}
}

// P13.3: a key that is there gets a value of another length, or the same; the pages of the one before are dropped (which whole asks).
func TestPutAgain(t *testing.T) {
	for _, before := range sizes {
		w := newTwin(t, 1024)
		w.put("a", "ahead")
		w.put("z", text(100))
		w.put("k", text(before))
		w.commit()
		for _, behind := range sizes {
			w.put("k", text(behind))
			w.get("k")
			w.put("k", text(before))
			w.put("k", text(before))
		}
		w.finds()
	}
}

// P13.3: the same in a tree of many leaves, each key in turn.
func TestPutAgainMany(t *testing.T) {
	w := newTwin(t, 1024)
	keys := row(60, 20)
	for i, key := range keys {
		w.put(key, text(i%41))
	}
	for i, key := range keys {
		w.put(key, text(40-i%41))
	}
	for _, key := range keys {
		w.put(key, text(41))
	}
	for i, key := range keys {
		w.put(key, text(i%50))
		w.get(key)
	}
	w.finds()
}

// row are n keys of a length that rise.
func row(n, length int) []string {
	var l []string
	for i := range n {
		digits := string([]byte{byte('a' + i/26%26), byte('a' + i%26)})
		if length < 2 {
			digits = string([]byte{byte(i + 1)})
		}
		l = append(l, digits+strings.Repeat("-", length-len(digits)))
	}
	return l
}
