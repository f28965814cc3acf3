package over_test

import (
	"strings"
	"testing"

	"foyer/api"
	"foyer/over"
	"foyer/pager"
)

// The chapter's examples.
func TestExamples(t *testing.T) {
	for _, g := range [][2]int{{1, 1}, {238, 1}, {239, 2}, {2000, 9}, {2001, 0}, {0, 0}} {
		if n := over.Need(g[0]); n != g[1] {
			t.Errorf("Need of %d: %d", g[0], n)
		}
	}
	w := newTwin(t, 64)
	if first, e := over.Put(w.x, strings.Repeat("a", 300)); first != 2 || e != api.OK {
		t.Fatal(first, e)
	}
	for _, g := range []struct {
		first, n int
		want     string
		e        api.Errno
	}{{2, 300, strings.Repeat("a", 300), api.OK}, {2, 299, "", api.ErrBroken}, {1, 62, strings.Repeat("a", 62), api.OK}} {
		if s, e := over.Get(w.x, g.first, g.n); s != g.want || e != g.e {
			t.Errorf("Get of %d, %d: %q, %d", g.first, g.n, s, e)
		}
	}
	if l, e := over.Pages(w.x, 2); len(l) != 2 || l[0] != 2 || l[1] != 1 || e != api.OK {
		t.Error(l, e)
	}
	if l, e := over.Pages(w.x, 1); len(l) != 1 || l[0] != 1 || e != api.OK {
		t.Error(l, e)
	}
	if e := over.Drop(w.x, 2); e != api.OK || len(w.x.Pages()) != 0 {
		t.Error(e, w.x.Pages())
	}
}

// P12.1: at each edge, and for each n by counting.
func TestNeed(t *testing.T) {
	for n := 1; n <= 2000; n++ {
		if got := over.Need(n); got != len(cut(text(n))) {
			t.Fatalf("Need of %d: %d", n, got)
		}
	}
	for _, g := range [][2]int{{0, 0}, {1, 1}, {237, 1}, {238, 1}, {239, 2}, {476, 2}, {477, 3}, {2000, 9}, {2001, 0}} {
		if n := over.Need(g[0]); n != g[1] {
			t.Errorf("Need of %d: %d", g[0], n)
		}
	}
	for _, n := range []int{-1, -2, -237, -238, -239, -2000, -1 << 32, -1 << 63, 2001, 2002, 2142, 2143, 5000, 1 << 16, 1 << 32, 1<<63 - 1, 1<<63 - 237} {
		if got := over.Need(n); got != 0 {
			t.Errorf("Need of %d: %d", n, got)
		}
	}
}

// P12.2: texts of all lengths at edges: which pages are made, of which kind, and with which bodies.
func TestPut(t *testing.T) {
	w := newTwin(t, 64)
	for _, n := range sizes {
		first := w.put(text(n))
		if first != over.Need(n) || len(w.x.Pages()) != over.Need(n) {
			t.Fatalf("Put of %d bytes: %d, %v", n, first, w.x.Pages())
		}
		for number, piece := range cut(text(n)) {
			kind, s, e := w.x.Read(first - number)
			if kind != 2 || s != body(first-number-1, piece) || e != api.OK {
				t.Fatalf("Put of %d bytes: page %d: %d, %q, %d", n, first-number, kind, s, e)
			}
		}
		w.get(first, n)
		w.chain(first)
		w.drop(first)
		w.alsoLeft()
	}
	for _, c := range []string{"\x00", "\xff", "\x02"} {
		for _, n := range sizes {
			first := w.put(strings.Repeat(c, n))
			w.get(first, n)
			w.drop(first)
		}
	}
}

// P12.2: a text that may not be: nothing is done, and that is told ahead of what the transaction says.
func TestPutArg(t *testing.T) {
	w := newTwin(t, 64)
	w.page(7, "there")
	for _, s := range []string{"", text(2001), text(2002), text(2142), text(2143), text(1 << 20)} {
		want := api.ErrLong
		if s == "" {
			want = api.ErrArg
		}
		w.put(s)
		gone, _ := laid(t, 1)
		gone.x.Abort()
		for name, x := range map[string]*pager.Tx{"one that goes on": w.x, "nil": nil, "one that is over": gone.x} {
			if first, e := over.Put(x, s); first != 0 || e != want {
				t.Errorf("%d bytes, %s: %d, %d", len(s), name, first, e)
			}
		}
	}
	w.alike()
}

// P12.2: pages are made in holes between others, and their numbers have two bytes.
func TestPutHoles(t *testing.T) {
	w := newTwin(t, 1024)
	for range 700 {
		w.page(7, "between")
	}
	for _, number := range []int{3, 5, 6, 255, 256, 257, 511, 512, 513, 600, 655, 699} {
		w.away(number)
	}
	first := w.put(text(2000))
	if first != 513 {
		t.Error(first)
	}
	w.get(first, 2000)
	w.chain(first)
	second := w.put(text(1999))
	if second != 706 {
		t.Error(second)
	}
	w.get(second, 1999)
	w.chain(second)
	w.commit()
	w.open()
	w.get(first, 2000)
	w.get(second, 1999)
	w.drop(first)
	w.get(second, 1999)
	w.drop(second)
	w.commit()
	w.alike()
}

// P12.2, P12.6: where so many sectors are left: a Put of a text that needs more changes no page, and leaves just as many.
func TestPutSpace(t *testing.T) {
	for _, n := range []int{1, 238, 239, 476, 477, 1000, 1999, 2000} {
		need := over.Need(n)
		for left := range need + 2 {
			w := newTwin(t, 64)
			for range 62 - left {
				w.page(7, "fills")
			}
			// A hole, so that pages are not made one behind the other.
			w.away(3)
			w.page(7, "a sector ahead")
			w.away(10)
			w.m.make(7, "fills")
			w.x.New(7, "fills")
			first, e := over.Put(w.x, text(n))
			want, f := w.m.put(text(n))
			if first != want || e != f || (e == api.ErrSpace) != (left < need) || (e == api.OK) != (left >= need) {
				t.Fatalf("%d bytes in %d sectors: %d, %d", n, left, first, e)
			}
			w.alike()
			w.alsoLeft()
			if e == api.OK {
				w.get(first, n)
			}
		}
	}
}

// P12.2: the same where pages stand that are in no sector of the transaction, and behind a commit.
func TestPutSpaceBehind(t *testing.T) {
	for left := range 11 {
		w := newTwin(t, 64)
		for range 30 {
			w.page(7, "stands")
		}
		w.commit()
		for w.m.left > left {
			w.page(8, "fills")
		}
		// Pages that stand in sectors of the root: to drop them makes no room.
		w.away(2)
		w.away(17)
		w.put(text(2000))
		w.alsoLeft()
		w.x.Abort()
		w.open()
		if len(w.x.Pages()) != 30 {
			t.Error(w.x.Pages())
		}
	}
}

// P12.2: the table has no more page.
func TestPutFull(t *testing.T) {
	for _, n := range []int{1, 239, 2000} {
		need := over.Need(n)
		for left := range need + 2 {
			w := newTwin(t, 1024)
			for range 960 - left {
				w.page(7, "fills")
			}
			first, e := over.Put(w.x, text(n))
			want, f := w.m.put(text(n))
			if first != want || e != f || (e == api.ErrFull) != (left < need) {
				t.Fatalf("%d bytes in %d pages: %d, %d", n, left, first, e)
			}
			w.alike()
		}
	}
}

// P12.6: what was made is let go so that the next Put has all the room again.
func TestPutAgain(t *testing.T) {
	w := newTwin(t, 64)
	for range 54 {
		w.page(7, "fills")
	}
	for range 20 {
		if first := w.put(text(2000)); first != 0 {
			t.Fatal(first)
		}
	}
	first := w.put(text(1904))
	w.get(first, 1904)
	w.put(text(1))
	w.drop(first)
	w.put(text(1))
}
