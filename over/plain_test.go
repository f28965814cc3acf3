package over_test

import (
	"slices"
	"strings"
	"testing"

	"foyer/api"
	"foyer/disk"
	"foyer/over"
	"foyer/pager"
)

// page is what stands in a page.
type page struct {
	kind int
	body string
}

// plain is the chapter's words, gone through one by one: the pages of a transaction, how many sectors are free for it, and which pages it wrote.
type plain struct {
	pages map[int]page
	wrote map[int]bool
	left  int
}

// body is the body of a page of a chain.
func body(next int, piece string) string {
	return string([]byte{byte(next / 256), byte(next % 256)}) + piece
}

// cut are a text's pieces, the first one first.
func cut(s string) []string {
	var l []string
	for len(s) > 238 {
		l, s = append(l, s[:238]), s[238:]
	}
	return append(l, s)
}

// make is a New.
func (m *plain) make(kind int, body string) (int, api.Errno) {
	number := 1
	for m.pages[number].kind != 0 {
		number++
	}
	switch {
	case number > 960:
		return 0, api.ErrFull
	case m.left == 0:
		return 0, api.ErrSpace
	}
	m.left--
	m.pages[number], m.wrote[number] = page{kind, body}, true
	return number, api.OK
}

// gone is a Drop of a page that stands.
func (m *plain) gone(number int) {
	if m.wrote[number] {
		m.left++
	}
	delete(m.pages, number)
	delete(m.wrote, number)
}

func (m *plain) put(s string) (int, api.Errno) {
	if s == "" {
		return 0, api.ErrArg
	}
	if len(s) > 2000 {
		return 0, api.ErrLong
	}
	l := cut(s)
	slices.Reverse(l)
	var made []int
	first := 0
	for _, piece := range l {
		number, e := m.make(2, body(first, piece))
		if e != api.OK {
			slices.Reverse(made)
			for _, n := range made {
				m.gone(n)
			}
			return 0, e
		}
		made, first = append(made, number), number
	}
	return first, api.OK
}

func (m *plain) get(first, n int) (string, api.Errno) {
	if n < 1 || n > 2000 {
		return "", api.ErrArg
	}
	s := ""
	for at := first; ; {
		p := m.pages[at]
		must := 238
		if n-len(s) < 238 {
			must = n - len(s)
		}
		if p.kind != 2 || len(p.body) != 2+must {
			return "", api.ErrBroken
		}
		at = 256*int(p.body[0]) + int(p.body[1])
		s += p.body[2:]
		switch {
		case len(s) == n && at == 0:
			return s, api.OK
		case len(s) == n || at == 0:
			return "", api.ErrBroken
		}
	}
}

func (m *plain) chain(first int) ([]int, api.Errno) {
	var l []int
	for at := first; ; {
		p := m.pages[at]
		if len(l) == 9 || p.kind != 2 || len(p.body) < 3 {
			return nil, api.ErrBroken
		}
		l = append(l, at)
		at = 256*int(p.body[0]) + int(p.body[1])
		switch {
		case at == 0:
			return l, api.OK
		case len(p.body) != 240:
			return nil, api.ErrBroken
		}
	}
}

func (m *plain) drop(first int) api.Errno {
	l, e := m.chain(first)
	for _, number := range l {
		m.gone(number)
	}
	return e
}

// twin is a store, and a plain one, of which the same is asked.
type twin struct {
	*testing.T
	d *disk.Disk
	p *pager.Pager
	x *pager.Tx
	m *plain
}

// newTwin is a fresh store of so many sectors, in a transaction.
func newTwin(t *testing.T, sectors int) *twin {
	t.Helper()
	w := &twin{T: t, d: disk.New(sectors), m: &plain{pages: map[int]page{}}}
	w.open()
	return w
}

// open opens the store anew, and begins a transaction.
func (w *twin) open() {
	w.Helper()
	p, e := pager.Open(w.d)
	w.is(e, api.OK)
	w.p = p
	w.begin()
}

// begin begins the next transaction.
func (w *twin) begin() {
	w.Helper()
	x, e := w.p.Begin()
	w.is(e, api.OK)
	w.x, w.m.left, w.m.wrote = x, w.p.Left(), map[int]bool{}
}

// commit commits, and begins the next transaction.
func (w *twin) commit() {
	w.Helper()
	w.is(w.x.Commit(), api.OK)
	w.begin()
}

// is asks for an error's number.
func (w *twin) is(e, want api.Errno) {
	w.Helper()
	if e != want {
		w.Fatalf("%d, not %d", e, want)
	}
}

// page makes a page that has nothing to do with chains, or is one of a chain made by hand.
func (w *twin) page(kind int, body string) int {
	w.Helper()
	got, e := w.x.New(kind, body)
	want, f := w.m.make(kind, body)
	if got != want || e != f {
		w.Fatalf("New: %d, %d, not %d, %d", got, e, want, f)
	}
	return got
}

// write writes a page that stands.
func (w *twin) write(number, kind int, body string) {
	w.Helper()
	w.is(w.x.Write(number, kind, body), api.OK)
	if !w.m.wrote[number] {
		w.m.left--
	}
	w.m.pages[number], w.m.wrote[number] = page{kind, body}, true
}

// away drops a page that stands.
func (w *twin) away(number int) {
	w.Helper()
	w.is(w.x.Drop(number), api.OK)
	w.m.gone(number)
}

// alike asks that the pages are just those of the plain one.
func (w *twin) alike() {
	w.Helper()
	l := w.x.Pages()
	if len(l) != len(w.m.pages) {
		w.Fatalf("pages %v, of %d", l, len(w.m.pages))
	}
	for _, number := range l {
		want := w.m.pages[number]
		kind, body, e := w.x.Read(number)
		if kind != want.kind || body != want.body || e != api.OK {
			w.Fatalf("page %d: %d, %q, %d, not %d, %q", number, kind, body, e, want.kind, want.body)
		}
	}
}

// alsoLeft asks that just as many sectors are free for the transaction as for the plain one. What it makes to find that is let go again.
func (w *twin) alsoLeft() {
	w.Helper()
	var made []int
	for {
		number, e := w.x.New(9, "")
		if e != api.OK {
			break
		}
		made = append(made, number)
	}
	if len(made) != w.m.left && len(made)+len(w.m.pages) != 960 {
		w.Fatalf("%d sectors are left, not %d", len(made), w.m.left)
	}
	for _, number := range made {
		w.is(w.x.Drop(number), api.OK)
	}
}

func (w *twin) put(s string) int {
	w.Helper()
	got, e := over.Put(w.x, s)
	want, f := w.m.put(s)
	if got != want || e != f {
		w.Fatalf("Put of %d bytes: %d, %d, not %d, %d", len(s), got, e, want, f)
	}
	w.alike()
	return got
}

func (w *twin) get(first, n int) {
	w.Helper()
	got, e := over.Get(w.x, first, n)
	want, f := w.m.get(first, n)
	if got != want || e != f {
		w.Fatalf("Get of %d, %d: %q, %d, not %q, %d", first, n, got, e, want, f)
	}
}

func (w *twin) chain(first int) []int {
	w.Helper()
	got, e := over.Pages(w.x, first)
	want, f := w.m.chain(first)
	if !slices.Equal(got, want) || e != f {
		w.Fatalf("Pages of %d: %v, %d, not %v, %d", first, got, e, want, f)
	}
	return got
}

func (w *twin) drop(first int) {
	w.Helper()
	e, f := over.Drop(w.x, first), w.m.drop(first)
	if e != f {
		w.Fatalf("Drop of %d: %d, not %d", first, e, f)
	}
	w.alike()
}

// sizes are lengths of texts, at each edge of a page.
var sizes = []int{1, 2, 237, 238, 239, 240, 475, 476, 477, 713, 714, 715, 952, 953, 1190, 1191, 1428, 1429, 1666, 1667, 1903, 1904, 1905, 1999, 2000}

// lengths are lengths that are asked for, also such as no text has.
var lengths = append([]int{0, -1, -238, -1 << 63, 2001, 2002, 2142, 1 << 20, 1<<63 - 1}, sizes...)

// text is a text of n bytes, of which each is another one than those about it, and 0 and 255 are among them.
func text(n int) string {
	var b strings.Builder
	for i := range n {
		b.WriteByte(byte(255 - i*7 - i/256))
	}
	return b.String()
}
