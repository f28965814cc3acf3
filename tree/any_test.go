package tree_test

import (
	"maps"
	"math/rand"
	"slices"
	"strings"
	"testing"

	"foyer/api"
	"foyer/tree"
)

// drawn is a tree of which things are asked that are drawn.
type drawn struct {
	*twin
	r *rand.Rand
	// keys is of which sort keys are, and many about how many there may be.
	keys, many int
}

// key draws a key, of few enough that some are drawn again.
func (w *drawn) key() string {
	n := w.r.Intn(w.many)
	digits := string([]byte{byte(n / 100), byte(n % 100)})
	switch w.keys {
	case 0:
		return digits
	case 1:
		return strings.Repeat("k", 38) + digits
	case 2:
		return digits + strings.Repeat("\xff", 38)
	}
	return digits[:1] + strings.Repeat("z", n%37) + digits[1:]
}

// value draws a value, most often a short one.
func (w *drawn) value() string {
	switch w.r.Intn(8) {
	case 0:
		return text(w.r.Intn(2001))
	case 1:
		return text(sizes[w.r.Intn(len(sizes))])
	case 2:
		return text(w.r.Intn(300))
	}
	return text(w.r.Intn(41))
}

// there draws a key that is there.
func (w *drawn) there() string {
	l := slices.Sorted(maps.Keys(w.pairs))
	if len(l) == 0 {
		return "none"
	}
	return l[w.r.Intn(len(l))]
}

// one does something that is drawn, and tells whether there was room.
func (w *drawn) one(drops int) bool {
	w.Helper()
	switch k := w.r.Intn(10); {
	case k < drops:
		key := w.there()
		root, had, e := tree.Drop(w.x, w.root, key)
		if e == api.ErrSpace {
			return false
		}
		w.is(e, api.OK)
		if _, is := w.pairs[key]; had != is {
			w.Fatal(key, had)
		}
		w.root = root
		delete(w.pairs, key)
	case k < drops+1:
		w.drop(w.key())
	default:
		key, value := w.key(), w.value()
		if w.r.Intn(4) == 0 {
			key = w.there()
		}
		root, e := tree.Put(w.x, w.root, key, value)
		if e == api.ErrSpace || e == api.ErrFull {
			return false
		}
		w.is(e, api.OK)
		w.root, w.pairs[key] = root, value
	}
	w.whole()
	w.thick()
	return true
}

// P13.5: rows of drawn calls, in one transaction and over several: behind each one the tree is just what a plain map says.
func TestRows(t *testing.T) {
	for seed := range 24 {
		r := rand.New(rand.NewSource(int64(seed)))
		w := &drawn{twin: newTwin(t, []int{80, 300, 1024, 1024}[r.Intn(4)]), r: r, keys: seed % 4, many: 20 + r.Intn(180)}
		for range 5 {
			w.other(1+r.Intn(4), text(r.Intn(240)))
		}
		w.commit()
		root, pairs := 0, map[string]string{}
		for turn := range 14 {
			room := true
			for range 10 + r.Intn(30) {
				if room = w.one([]int{2, 2, 4, 7}[turn%4]); !room {
					break
				}
			}
			if room {
				w.finds()
				room = w.x.Commit() == api.OK
				w.begin()
			}
			if room {
				root, pairs = w.root, maps.Clone(w.pairs)
			} else {
				w.x.Abort()
				w.begin()
				w.root, w.pairs = root, maps.Clone(pairs)
			}
			if r.Intn(3) == 0 {
				w.boot()
			}
			w.whole()
		}
	}
}

// R6: the same calls make the same pages.
func TestSame(t *testing.T) {
	build := func() *drawn {
		w := &drawn{twin: newTwin(t, 1024), r: rand.New(rand.NewSource(7)), keys: 3, many: 200}
		for range 150 {
			w.one(3)
		}
		return w
	}
	a, b := build(), build()
	if a.root != b.root || !slices.Equal(a.x.Pages(), b.x.Pages()) {
		t.Fatal(a.root, b.root, a.x.Pages(), b.x.Pages())
	}
	for _, at := range a.x.Pages() {
		kind, body, _ := a.x.Read(at)
		if k, s, e := b.x.Read(at); k != kind || s != body || e != api.OK {
			t.Errorf("page %d: %q, not %q", at, s, body)
		}
	}
}

// R5: lists that are answered are new: to change them changes no tree.
func TestOwn(t *testing.T) {
	w := newTwin(t, 1024)
	for _, key := range row(40, 30) {
		w.put(key, text(100))
	}
	all, _ := tree.All(w.x, w.root)
	pages, _ := tree.Check(w.x, w.root)
	for i := range all {
		all[i] = api.Pair{}
	}
	for i := range pages {
		pages[i] = 0
	}
	w.whole()
}
