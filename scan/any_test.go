package scan_test

import (
	"maps"
	"math/rand"
	"slices"
	"strings"
	"testing"

	"foyer/api"
	"foyer/scan"
)

// drawnKeys draws keys of a sort, in no order, each once.
func drawnKeys(r *rand.Rand, sort, n int) []string {
	var l []string
	for _, i := range r.Perm(1000)[:n] {
		digits := string([]byte{byte(i >> 5), byte(i & 31)})
		switch sort {
		case 0:
			l = append(l, digits)
		case 1:
			l = append(l, strings.Repeat("k", 38)+digits)
		case 2:
			l = append(l, digits+strings.Repeat("\xff", 38))
		default:
			l = append(l, digits[:1]+strings.Repeat("z", i%37)+digits[1:])
		}
	}
	slices.Sort(l)
	l = slices.Compact(l)
	r.Shuffle(len(l), func(i, j int) { l[i], l[j] = l[j], l[i] })
	return l
}

// drawnStore is a store with a drawn tree, of which some pairs were dropped again.
func drawnStore(t *testing.T, seed int) (*store, *rand.Rand) {
	t.Helper()
	r := rand.New(rand.NewSource(int64(seed)))
	w := newStore(t, 1024)
	keys := drawnKeys(r, seed%4, r.Intn(400))
	w.puts(keys, func(i int) string {
		if i%40 == 7 {
			return sized(r.Intn(1000))
		}
		return text(r.Intn(41))
	})
	for _, key := range keys[:len(keys)*r.Intn(3)/4] {
		w.dropped(key)
	}
	if r.Intn(2) == 0 {
		w.laid()
	}
	return w, r
}

// asks draws a text: a key that is there, one beside it, or one of none.
func (w *store) asks(r *rand.Rand) string {
	l := []string{"", "\x00", "\xff\xff", "k", strings.Repeat("k", 39)}
	if len(w.has) > 0 {
		key := w.has[r.Intn(len(w.has))].Key
		l = append(l, key, key, key, key+"\x00", key+text(300), key[:r.Intn(len(key))])
	}
	return l[r.Intn(len(l))]
}

// up are all pairs by After, from the empty key on.
func (w *store) up() (all []api.Pair) {
	w.Helper()
	key := ""
	for {
		pair, is, e := scan.After(w.x, w.root, key)
		w.is(e, api.OK)
		if !is {
			return all
		}
		all = append(all, pair)
		key = pair.Key
	}
}

// down are all pairs by Before, from Last on.
func (w *store) down() (all []api.Pair) {
	w.Helper()
	pair, is, e := scan.Last(w.x, w.root)
	for is {
		w.is(e, api.OK)
		all = append(all, pair)
		pair, is, e = scan.Before(w.x, w.root, pair.Key)
	}
	w.is(e, api.OK)
	return all
}

// P14.4: by After all pairs, in order, each once; by Before the same, the other way round; nothing is changed.
func TestWays(t *testing.T) {
	deepest := 0
	for seed := range 24 {
		w, _ := drawnStore(t, seed)
		deepest = max(deepest, w.deep())
		was := w.bodies()
		for range 2 {
			up, down := w.up(), w.down()
			slices.Reverse(down)
			if !slices.Equal(up, w.has) || !slices.Equal(down, w.has) {
				t.Fatalf("%d: %d pairs, and %d, not %d", seed, len(up), len(down), len(w.has))
			}
		}
		w.unchanged(was)
	}
	if deepest < 4 {
		t.Errorf("%d levels", deepest)
	}
}

// P14.4: Ranges of spans that lie one behind the other are that of the whole; so are Counts; a Range by pieces of at most so many is, too.
func TestPieces(t *testing.T) {
	for seed := range 24 {
		w, r := drawnStore(t, seed)
		was := w.bodies()
		for range 12 {
			cuts := []string{w.asks(r)}
			for range r.Intn(6) {
				cuts = append(cuts, w.asks(r))
			}
			slices.Sort(cuts)
			// The empty text as an end is behind all others.
			ends := slices.DeleteFunc(cuts[1:], func(s string) bool { return s == "" })
			w.pieces(cuts[0], ends...)
			w.pieces(cuts[0], append(ends, "")...)
		}
		w.unchanged(was)
	}
}

// pieces asks for the span from one text up to the last one of others, whole, and cut at each.
func (w *store) pieces(from string, ends ...string) {
	w.Helper()
	if len(ends) == 0 {
		return
	}
	first, last := from, ends[len(ends)-1]
	var l []api.Pair
	count := 0
	for _, to := range ends {
		pairs, e := scan.Range(w.x, w.root, from, to, 1000)
		w.is(e, api.OK)
		n, e := scan.Count(w.x, w.root, from, to)
		w.is(e, api.OK)
		if n != len(pairs) {
			w.Fatalf("from %q to %q: %d, not %d", from, to, n, len(pairs))
		}
		l, count, from = append(l, pairs...), count+n, to
	}
	whole, e := scan.Range(w.x, w.root, first, last, 1000)
	w.is(e, api.OK)
	if n, e := scan.Count(w.x, w.root, first, last); n != count || e != api.OK || !slices.Equal(l, whole) {
		w.Fatalf("from %q, %q: %d and %d pairs, not %d and %d, %d", first, ends, len(l), count, len(whole), n, e)
	}
	w.ranges(first, last)
	w.portions(first, last, whole)
}

// portions asks for a span in portions, each from behind the last key of the one ahead.
func (w *store) portions(from, to string, whole []api.Pair) {
	w.Helper()
	var l []api.Pair
	for {
		pairs, e := scan.Range(w.x, w.root, from, to, 1+len(l)%7)
		w.is(e, api.OK)
		if len(pairs) == 0 {
			break
		}
		l = append(l, pairs...)
		from = pairs[len(pairs)-1].Key + "\x00"
	}
	if !slices.Equal(l, whole) {
		w.Fatalf("%d pairs, not %d", len(l), len(whole))
	}
}

// P14.1, P14.2, R6: drawn calls over drawn trees, held against the sorted pairs, and the same again.
func TestDrawn(t *testing.T) {
	for seed := range 16 {
		w, r := drawnStore(t, 100+seed)
		was := w.bodies()
		for range 100 {
			w.finds(w.asks(r))
			w.ranges(w.asks(r), w.asks(r))
		}
		w.unchanged(was)
		if seed%4 == 0 {
			for _, key := range w.beside() {
				w.finds(key)
			}
		}
	}
}

// P14.2, P14.4: a transaction sees what it changed itself, and another one behind an Abort does not.
func TestOwnChanges(t *testing.T) {
	w := newStore(t, 256)
	w.puts(letters('a', 20), shorter).laid()
	root, has := w.root, w.has
	for _, key := range []string{"b", "m", "t"} {
		w.dropped(key)
	}
	pairs := map[string]string{}
	for _, pair := range w.has {
		pairs[pair.Key] = pair.Value
	}
	w.puts(letters('A', 5), sized)
	for _, pair := range w.has {
		pairs[pair.Key] = pair.Value
	}
	w.has = nil
	for _, key := range slices.Sorted(maps.Keys(pairs)) {
		w.has = append(w.has, api.Pair{Key: key, Value: pairs[key]})
	}
	w.all()
	w.x.Abort()
	w.begin()
	w.root, w.has = root, has
	w.all()
}

// P14.1, P14.2: trees in one store count for each other nothing.
func TestTwoTrees(t *testing.T) {
	w := newStore(t, 1024)
	w.puts([]string{"b", "d", "f"}, sized)
	root, has := w.root, w.has
	w.root = 0
	w.puts(letters('a', 26), shorter).all()
	w.root, w.has = root, has
	w.all()
}
