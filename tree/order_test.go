package tree_test

import (
	"math/rand"
	"slices"
	"strings"
	"testing"
)

// orders are ways to go through n things.
func orders(n int) map[string][]int {
	rising := make([]int, n)
	for i := range rising {
		rising[i] = i
	}
	falling := slices.Clone(rising)
	slices.Reverse(falling)
	return map[string][]int{"rising": rising, "falling": falling, "drawn": rand.New(rand.NewSource(int64(n))).Perm(n)}
}

// sort is a sort of keys and values, and how many levels a tree of them has at least.
type sort struct {
	keys  []string
	value func(i int) string
	deep  int
}

// alikeKeys are n keys of 40 bytes that begin alike, for 38.
func alikeKeys(n int) []string {
	l := row(n, 2)
	for i := range l {
		l[i] = strings.Repeat("same", 10)[:38] + l[i]
	}
	return l
}

// prefixes are keys of which each one begins with the one ahead.
func prefixes(n int) []string {
	var l []string
	for i := 1; i <= n; i++ {
		l = append(l, strings.Repeat("p", i))
	}
	return l
}

// sorts are sorts of keys and values.
func sorts() map[string]sort {
	return map[string]sort{
		"one":                    {row(1, 5), func(int) string { return "x" }, 1},
		"two":                    {row(2, 5), func(int) string { return "x" }, 1},
		"one leaf":               {row(20, 2), func(int) string { return "" }, 1},
		"two leaves":             {row(3, 40), func(int) string { return text(40) }, 2},
		"short keys, no values":  {row(150, 1), func(int) string { return "" }, 2},
		"short keys":             {row(70, 2), func(i int) string { return text(i % 41) }, 2},
		"long keys":              {row(70, 40), func(int) string { return "" }, 3},
		"long keys, long values": {row(70, 40), func(int) string { return text(40) }, 3},
		"keys that begin alike":  {alikeKeys(70), func(i int) string { return text(i % 41) }, 3},
		"keys that go on":        {prefixes(40), func(i int) string { return text(40 - i) }, 2},
		"longer values":          {row(40, 30), func(i int) string { return text(41 + i*5) }, 2},
		"mixed":                  {row(60, 9), func(i int) string { return text(i * 37 % 300) }, 2},
	}
}

// P13.2 to P13.5: each sort of pairs is put in each order, and dropped in each order; whole asks all behind each call.
func TestOrders(t *testing.T) {
	for name, s := range sorts() {
		for put, in := range orders(len(s.keys)) {
			for drop, out := range orders(len(s.keys)) {
				t.Run(name+", "+put+", "+drop, func(t *testing.T) {
					t.Parallel()
					w := newTwin(t, 1024)
					s.fill(w, in)
					s.empty(w, out)
				})
			}
		}
	}
}

// fill puts all pairs, in an order.
func (s sort) fill(w *twin, order []int) {
	w.Helper()
	w.other(1, "no node")
	w.other(2, "no chain")
	for _, i := range order {
		w.drop(s.keys[i])
		w.put(s.keys[i], s.value(i))
	}
	if w.deep() < s.deep || s.deep == 1 && w.deep() != 1 {
		w.Errorf("%d levels, not %d", w.deep(), s.deep)
	}
	w.finds()
	w.commit()
	w.whole()
	w.finds()
	w.boot()
	w.whole()
	w.finds()
}

// empty drops all pairs, in an order.
func (s sort) empty(w *twin, order []int) {
	w.Helper()
	for n, i := range order {
		w.drop(s.keys[i] + "no")
		w.drop(s.keys[i])
		w.drop(s.keys[i])
		w.thick()
		if n == len(order)/2 {
			w.finds()
			w.commit()
			w.whole()
		}
	}
	if w.root != 0 || len(w.x.Pages()) != 2 {
		w.Errorf("the root %d, %v", w.root, w.x.Pages())
	}
	w.commit()
	w.boot()
	w.whole()
	if len(w.x.Pages()) != 2 {
		w.Error(w.x.Pages())
	}
}
