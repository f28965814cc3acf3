package over_test

import (
	"testing"

	"foyer/api"
	"foyer/over"
)

// noPages are numbers of no pages, or of none that stands.
var noPages = []int{0, -1, -2, -65535, 959, 960, 961, 65535, 65536, 65537, 65536 + 2, 1 << 32, 1<<32 + 1, 1<<63 - 1, -1 << 63}

// all asks all of a first page that it tells: its pages, and its text by all lengths.
func (w *twin) all(first int) {
	w.Helper()
	w.chain(first)
	for _, n := range lengths {
		w.get(first, n)
	}
}

// tries asks likewise, and that a Drop of what is no chain does nothing.
func (w *twin) tries(first int) {
	w.Helper()
	w.all(first)
	if _, e := w.m.chain(first); e != api.OK {
		w.drop(first)
	}
}

// P12.3, P12.5: each text by each length, in its transaction, behind its commit, and behind a boot and an Open.
func TestGet(t *testing.T) {
	for _, n := range sizes {
		w := newTwin(t, 64)
		w.page(1, "ahead")
		first := w.put(text(n))
		for _, l := range [][]int{lengths, {n - 1, n + 1, n - 238, n + 238, n - 239, n + 239}} {
			for _, m := range l {
				w.get(first, m)
			}
		}
		w.chain(first)
		w.commit()
		w.all(first)
		w.is(w.x.Commit(), api.OK)
		w.d.Arm(0)
		w.d.Barrier()
		w.d.Boot(nil)
		w.open()
		w.all(first)
		w.alike()
		// Each page of a chain begins one of its own.
		for number := 1; number <= first; number++ {
			w.tries(number)
		}
	}
}

// P12.3, P12.5: each length from 1 on is got again as it was put.
func TestGetEach(t *testing.T) {
	w := newTwin(t, 64)
	for n := 1; n <= 2000; n += 1 + n%3 {
		first := w.put(text(n))
		w.get(first, n)
		w.get(first, n-1)
		w.get(first, n+1)
		if l := w.chain(first); len(l) != over.Need(n) {
			t.Fatal(n, l)
		}
		w.drop(first)
	}
}

// P12.3: n that is none is told ahead of all else.
func TestGetArg(t *testing.T) {
	w := newTwin(t, 64)
	first := w.put(text(300))
	for _, n := range []int{0, -1, -300, -1 << 63, 2001, 2002, 1 << 32, 1<<63 - 1} {
		for _, at := range append([]int{first, 1}, noPages...) {
			if s, e := over.Get(w.x, at, n); s != "" || e != api.ErrArg {
				t.Errorf("Get of %d, %d: %q, %d", at, n, s, e)
			}
		}
		if s, e := over.Get(nil, first, n); s != "" || e != api.ErrArg {
			t.Errorf("Get of nil: %q, %d", s, e)
		}
	}
	w.x.Abort()
	if s, e := over.Get(w.x, first, 0); s != "" || e != api.ErrArg {
		t.Errorf("Get of one that is over: %q, %d", s, e)
	}
}

// P12.3 to P12.5: a first page that is none, that was dropped, or that is of another kind.
func TestNoPage(t *testing.T) {
	w := newTwin(t, 64)
	for _, first := range noPages {
		w.tries(first)
	}
	w.put(text(600))
	for _, first := range noPages {
		w.tries(first)
	}
	for _, kind := range []int{1, 3, 4, 7, 254} {
		for _, s := range []string{"", "x", "\x00\x00", "\x00\x00x", body(0, text(238)), body(1, text(238)), body(0, text(62))} {
			w.tries(w.page(kind, s))
		}
	}
	for number := 1; number <= 3; number++ {
		w.tries(number)
	}
	w.drop(3)
	w.tries(3)
	w.put(text(1000))
	w.away(4)
	for number := 1; number <= 12; number++ {
		w.tries(number)
	}
}

// P12.3 to P12.5: a page in the midst of a chain that was dropped, or is of another kind.
func TestMissing(t *testing.T) {
	for at := 1; at <= 9; at++ {
		w := newTwin(t, 64)
		first := w.put(text(2000))
		w.write(at, 1, w.m.pages[at].body)
		w.tries(first)
		w.away(at)
		w.tries(first)
		w.commit()
		for number := 1; number <= 9; number++ {
			w.tries(number)
		}
	}
}

// P12.3 to P12.5: pages made by hand, by all lengths of a body, that name no next page, one, or what is none.
func TestByHand(t *testing.T) {
	w := newTwin(t, 1024)
	last := w.page(2, body(0, text(62)))
	full := w.page(2, body(0, text(238)))
	ends := w.page(2, body(last, text(238)))
	none := w.page(2, "")
	other := w.page(1, body(0, text(238)))
	for _, next := range []int{0, last, full, ends, none, other, 900, 960, 961, 65535, 256, 512} {
		for _, n := range []int{0, 1, 2, 61, 62, 237, 238} {
			number := w.page(2, body(next, text(n)))
			w.tries(number)
			ahead := w.page(2, body(number, text(238)))
			w.tries(ahead)
			w.get(ahead, 238+n)
			w.get(ahead, 238+n+62)
			w.get(ahead, 238+n+238)
			w.get(number, n)
			w.get(number, n+62)
			w.get(number, n+238)
		}
	}
	for _, s := range []string{"", "\x00", "\x01", "\x00\x01", "\x01\x00", "\x00\x00", "\xff\xff", "\x00\x00\x00"} {
		number := w.page(2, s)
		w.tries(number)
		w.tries(w.page(2, body(number, text(238))))
	}
	w.is(w.x.Commit(), api.OK)
	w.open()
	for _, number := range w.x.Pages() {
		w.chain(number)
		for _, n := range []int{1, 62, 63, 238, 239, 300, 301, 476, 538, 714} {
			w.get(number, n)
		}
	}
}

// ring makes pages that lead in a ring, behind some that lead to it.
func (w *twin) ring(ahead, round int) (first int) {
	w.Helper()
	var l []int
	for range ahead + round {
		l = append(l, w.page(2, "x"))
	}
	for i, number := range l {
		next := l[(i+1)%len(l)]
		if i == len(l)-1 {
			next = l[ahead]
		}
		w.write(number, 2, body(next, text(238)))
	}
	return l[0]
}

// P12.3 to P12.5: chains that lead in a ring, at once, or behind some pages.
func TestRings(t *testing.T) {
	for ahead := range 11 {
		for round := 1; round < 12; round++ {
			w := newTwin(t, 64)
			first := w.ring(ahead, round)
			w.tries(first)
			if l, e := over.Pages(w.x, first); len(l) != 0 || e != api.ErrBroken {
				t.Errorf("%d pages ahead of a ring of %d: %v, %d", ahead, round, l, e)
			}
		}
	}
}

// handmade makes a chain of so many pages, whose last piece has so many bytes.
func (w *twin) handmade(pages, bytes int) (first int) {
	w.Helper()
	for range pages {
		first = w.page(2, body(first, text(bytes)))
		bytes = 238
	}
	return first
}

// P12.5: chains of up to nine pages, and longer ones. In the last one of nine pages there may be more than any text has.
func TestPagesMany(t *testing.T) {
	for pages := 1; pages <= 12; pages++ {
		for _, bytes := range []int{0, 1, 96, 97, 238} {
			w := newTwin(t, 64)
			first := w.handmade(pages, bytes)
			l := w.chain(first)
			if want := pages <= 9 && bytes > 0; (len(l) == pages) != want || want && (l[0] != first || l[len(l)-1] != 1) {
				t.Errorf("%d pages, %d bytes: %v", pages, bytes, l)
			}
			w.all(first)
			w.drop(first)
			w.alsoLeft()
		}
	}
}

// P12.5: a page that names a next one must be full, also the ninth one.
func TestPagesShort(t *testing.T) {
	for at := 1; at <= 9; at++ {
		for _, bytes := range []int{0, 1, 2, 100, 236, 237} {
			w := newTwin(t, 64)
			first := w.handmade(9, 238)
			w.tries(first)
			w.write(at, 2, body(at-1, text(bytes)))
			w.tries(first)
		}
	}
}
