package over_test

import (
	"math/rand"
	"slices"
	"testing"

	"foyer/api"
	"foyer/over"
)

// kept is a text that was put, and its first page.
type kept struct {
	first int
	text  string
}

// someText is a text of drawn bytes, often of a length at an edge.
func someText(r *rand.Rand) string {
	n := 1 + r.Intn(2000)
	switch r.Intn(4) {
	case 0:
		n = sizes[r.Intn(len(sizes))]
	case 1:
		n = 1 + r.Intn(300)
	}
	b := make([]byte, n)
	r.Read(b)
	for i := range b {
		switch r.Intn(6) {
		case 0:
			b[i] = 0
		case 1:
			b[i] = 255
		}
	}
	return string(b)
}

// row is texts that are kept, between pages of others.
type row struct {
	*twin
	r      *rand.Rand
	texts  []kept
	others []int
}

// one does something that is drawn.
func (w *row) one() {
	w.Helper()
	switch k := w.r.Intn(12); {
	case k < 4:
		s := someText(w.r)
		if first := w.put(s); first != 0 {
			w.texts = append(w.texts, kept{first, s})
		}
	case k < 7 && len(w.texts) > 0:
		i := w.r.Intn(len(w.texts))
		w.drop(w.texts[i].first)
		w.texts = slices.Delete(w.texts, i, i+1)
	case k < 9:
		if number := w.page(1+w.r.Intn(3), body(w.r.Intn(20), text(w.r.Intn(239)))); number != 0 {
			w.others = append(w.others, number)
		}
	case k < 10 && len(w.others) > 0:
		i := w.r.Intn(len(w.others))
		w.away(w.others[i])
		w.others = slices.Delete(w.others, i, i+1)
	case k == 10:
		w.get(w.r.Intn(70)-2, w.r.Intn(2100)-20)
		w.chain(w.r.Intn(70) - 2)
	default:
		if len(w.texts) > 0 {
			w.again(w.texts[w.r.Intn(len(w.texts))])
		}
	}
}

// again asks that a text is got as it was put, in as many pages as it needs.
func (w *row) again(k kept) []int {
	w.Helper()
	if s, e := over.Get(w.x, k.first, len(k.text)); s != k.text || e != api.OK {
		w.Fatalf("%d bytes from %d: %q, %d", len(k.text), k.first, s, e)
	}
	l := w.chain(k.first)
	if len(l) != over.Need(len(k.text)) {
		w.Fatalf("%d bytes in %v", len(k.text), l)
	}
	return l
}

// apart asks that each text is as it was put, and that no page is of two.
func (w *row) apart() {
	w.Helper()
	l := slices.Clone(w.others)
	for _, k := range w.texts {
		l = append(l, w.again(k)...)
	}
	slices.Sort(l)
	if !slices.Equal(l, w.x.Pages()) {
		w.Fatalf("%v, not %v", l, w.x.Pages())
	}
}

// next goes on in another transaction: behind a Commit, for which there must be room, or an Abort.
func (w *row) next(was row) row {
	w.Helper()
	if w.r.Intn(4) > 0 && w.m.left > 8 {
		w.is(w.x.Commit(), api.OK)
		was = row{texts: slices.Clone(w.texts), others: slices.Clone(w.others)}
	} else {
		w.x.Abort()
		w.texts, w.others = slices.Clone(was.texts), slices.Clone(was.others)
	}
	w.open()
	w.m.pages = map[int]page{}
	for _, number := range w.x.Pages() {
		kind, body, e := w.x.Read(number)
		w.is(e, api.OK)
		w.m.pages[number] = page{kind, body}
	}
	w.apart()
	return was
}

// P12.6: rows of texts that are put, got and dropped, between pages of others, over several transactions: each is as it was put, and nothing is left when all are dropped.
func TestRows(t *testing.T) {
	for seed := range 60 {
		r := rand.New(rand.NewSource(int64(seed)))
		w := &row{twin: newTwin(t, []int{64, 80, 200, 1024}[r.Intn(4)]), r: r}
		left, was := w.m.left, row{}
		for range 6 {
			for range 25 {
				w.one()
			}
			w.apart()
			was = w.next(was)
		}
		r.Shuffle(len(w.texts), func(i, j int) { w.texts[i], w.texts[j] = w.texts[j], w.texts[i] })
		for _, k := range w.texts {
			w.again(k)
			w.drop(k.first)
		}
		for _, number := range w.others {
			w.away(number)
		}
		if l := w.x.Pages(); len(l) != 0 {
			t.Fatal(l)
		}
		w.is(w.x.Commit(), api.OK)
		if w.p.Left() != left {
			t.Errorf("%d are left, not %d", w.p.Left(), left)
		}
	}
}

// R5: the list that is answered is new: to change it changes no chain; R6: the same is answered again.
func TestOwn(t *testing.T) {
	w := newTwin(t, 64)
	first := w.put(text(2000))
	l := w.chain(first)
	for i := range l[:cap(l)] {
		l[:cap(l)][i] = -7
	}
	m := w.chain(first)
	w.chain(first)
	w.get(first, 2000)
	w.get(first, 2000)
	if len(m) != 9 {
		t.Error(m)
	}
}
