package pager_test

import (
	"encoding/binary"
	"hash/adler32"
	"slices"
	"strings"
	"testing"

	"foyer/api"
	"foyer/disk"
	"foyer/pager"
)

// barrierStep is in place of a sector in a step that is a Barrier.
const barrierStep = -1

// step is an operation of a commit: a Write, or a Barrier.
type step struct {
	sector int
	data   string
}

// plain is the chapter's words, gone through one by one: the sectors, the root that counts, and where the pages stand.
type plain struct {
	sectors []string
	epoch   uint64
	which   int
	chunks  [8]int
	stands  map[int]int
}

// plainTx is a transaction likewise.
type plainTx struct {
	of     *plain
	stands map[int]int
	dirty  [8]bool
	free   []bool
	texts  map[int]string
}

func newPlain(n int) *plain {
	p := &plain{which: -1, stands: map[int]int{}}
	for range n {
		p.sectors = append(p.sectors, blank)
	}
	return p
}

// blank is a sector of noughts.
var blank = strings.Repeat("\x00", 256)

// sealed is the sealed sector of a kind and a body.
func sealed(kind int, body string) string {
	b := make([]byte, 252)
	b[0], b[1] = byte(kind), byte(len(body))
	copy(b[2:], body)
	return string(binary.BigEndian.AppendUint32(b, adler32.Checksum(b)))
}

// rootSector is the sector of a root.
func rootSector(epoch uint64, sectors int, chunks [8]int) string {
	b := binary.BigEndian.AppendUint64(nil, epoch)
	b = binary.BigEndian.AppendUint16(b, uint16(sectors))
	for _, c := range chunks {
		b = binary.BigEndian.AppendUint16(b, uint16(c))
	}
	b = append(b, make([]byte, 222)...)
	return string(binary.BigEndian.AppendUint64(b, epoch))
}

// chunkText is the text of a chunk.
func chunkText(i int, stands map[int]int) string {
	var b []byte
	for page := 120*i + 1; page <= 120*i+120; page++ {
		b = binary.BigEndian.AppendUint16(b, uint16(stands[page]))
	}
	return string(b)
}

// rising are the pages that stand, rising.
func rising(stands map[int]int) []int {
	var l []int
	for page := 1; page <= 960; page++ {
		if stands[page] != 0 {
			l = append(l, page)
		}
	}
	return l
}

// free are the sectors that are not used.
func (p *plain) free() []bool {
	free := make([]bool, len(p.sectors))
	for i := 2; i < len(free); i++ {
		free[i] = true
	}
	for _, c := range p.chunks {
		if c != 0 {
			free[c] = false
		}
	}
	for _, s := range p.stands {
		if s != 0 {
			free[s] = false
		}
	}
	return free
}

func (p *plain) left() int {
	left := 0
	for _, f := range p.free() {
		if f {
			left++
		}
	}
	return left
}

func (p *plain) begin() *plainTx {
	x := &plainTx{of: p, free: p.free(), stands: map[int]int{}, texts: map[int]string{}}
	for page, s := range p.stands {
		x.stands[page] = s
	}
	return x
}

// take is the lowest sector that is free for the transaction; 0, if none is.
func (x *plainTx) take() int {
	for i, f := range x.free {
		if f {
			x.free[i] = false
			return i
		}
	}
	return 0
}

func (x *plainTx) set(page, sector int) {
	x.stands[page] = sector
	x.dirty[(page-1)/120] = true
}

func (x *plainTx) read(page int) (int, string, api.Errno) {
	if x.stands[page] == 0 {
		return 0, "", api.ErrNone
	}
	s, wrote := x.texts[page]
	if !wrote {
		s = x.of.sectors[x.stands[page]]
	}
	return int(s[0]), s[2 : 2+int(s[1])], api.OK
}

// mayBe tells why there is no page of that kind with that body.
func mayBe(kind int, body string) api.Errno {
	if kind < 1 || kind > 254 {
		return api.ErrKind
	}
	if len(body) > 240 {
		return api.ErrLong
	}
	return api.OK
}

func (x *plainTx) write(page, kind int, body string) api.Errno {
	if x.stands[page] == 0 {
		return api.ErrNone
	}
	if e := mayBe(kind, body); e != api.OK {
		return e
	}
	if _, wrote := x.texts[page]; !wrote {
		s := x.take()
		if s == 0 {
			return api.ErrSpace
		}
		x.set(page, s)
	}
	x.texts[page] = sealed(kind, body)
	return api.OK
}

func (x *plainTx) make(kind int, body string) (int, api.Errno) {
	if e := mayBe(kind, body); e != api.OK {
		return 0, e
	}
	page := 1
	for x.stands[page] != 0 {
		page++
	}
	if page > 960 {
		return 0, api.ErrFull
	}
	s := x.take()
	if s == 0 {
		return 0, api.ErrSpace
	}
	x.set(page, s)
	x.texts[page] = sealed(kind, body)
	return page, api.OK
}

func (x *plainTx) drop(page int) api.Errno {
	if x.stands[page] == 0 {
		return api.ErrNone
	}
	if _, wrote := x.texts[page]; wrote {
		x.free[x.stands[page]] = true
		delete(x.texts, page)
	}
	x.set(page, 0)
	return api.OK
}

// commit are the operations of a Commit, and the store behind it, but for what stands in the sectors.
func (x *plainTx) commit() ([]step, *plain, api.Errno) {
	if x.dirty == [8]bool{} {
		return nil, x.of, api.OK
	}
	next := &plain{epoch: x.of.epoch + 1, chunks: x.of.chunks, stands: x.stands}
	if x.of.which == 0 {
		next.which = 1
	}
	var texts, chunks []step
	for _, page := range rising(x.stands) {
		if s, wrote := x.texts[page]; wrote {
			texts = append(texts, step{x.stands[page], s})
		}
	}
	for i, dirty := range x.dirty {
		if !dirty {
			continue
		}
		next.chunks[i] = 0
		if text := chunkText(i, x.stands); text != blank[:240] {
			s := x.take()
			if s == 0 {
				return nil, nil, api.ErrSpace
			}
			next.chunks[i] = s
			chunks = append(chunks, step{s, sealed(255, text)})
		}
	}
	root := rootSector(next.epoch, len(x.of.sectors), next.chunks)
	steps := append(texts, chunks...)
	return append(steps, step{sector: barrierStep}, step{next.which, root}, step{sector: barrierStep}), next, api.OK
}

// behind are the sectors behind steps.
func behind(sectors []string, steps []step) []string {
	now := slices.Clone(sectors)
	for _, s := range steps {
		if s.sector != barrierStep {
			now[s.sector] = s.data
		}
	}
	return now
}

// twin is a store on a disk, and the same by the chapter's words; a call of both asks that they answer alike.
type twin struct {
	t  *testing.T
	d  *disk.Disk
	p  *pager.Pager
	x  *pager.Tx
	m  *plain
	mx *plainTx
}

// newTwin is a fresh store.
func newTwin(t *testing.T, n int) *twin {
	t.Helper()
	d := disk.New(n)
	return &twin{t: t, d: d, p: opened(t, d), m: newPlain(n)}
}

// opened is the pager of a disk that has one.
func opened(t *testing.T, d *disk.Disk) *pager.Pager {
	t.Helper()
	p, e := pager.Open(d)
	if p == nil || e != api.OK {
		t.Fatalf("Open: %v, %d", p, e)
	}
	return p
}

func (w *twin) begin() {
	w.t.Helper()
	x, e := w.p.Begin()
	if x == nil || e != api.OK {
		w.t.Fatalf("Begin: %v, %d", x, e)
	}
	w.x, w.mx = x, w.m.begin()
}

func (w *twin) write(page, kind int, body string) api.Errno {
	w.t.Helper()
	e, want := w.x.Write(page, kind, body), w.mx.write(page, kind, body)
	if e != want {
		w.t.Fatalf("Write(%d, %d, %d bytes): %d, not %d", page, kind, len(body), e, want)
	}
	return e
}

func (w *twin) make(kind int, body string) (int, api.Errno) {
	w.t.Helper()
	page, e := w.x.New(kind, body)
	if want, why := w.mx.make(kind, body); page != want || e != why {
		w.t.Fatalf("New(%d, %d bytes): %d, %d; not %d, %d", kind, len(body), page, e, want, why)
	}
	return page, e
}

func (w *twin) drop(page int) api.Errno {
	w.t.Helper()
	e, want := w.x.Drop(page), w.mx.drop(page)
	if e != want {
		w.t.Fatalf("Drop(%d): %d, not %d", page, e, want)
	}
	return e
}

func (w *twin) read(page int) {
	w.t.Helper()
	kind, body, e := w.x.Read(page)
	if k, b, want := w.mx.read(page); kind != k || body != b || e != want {
		w.t.Fatalf("Read(%d): %d, %q, %d; not %d, %q, %d", page, kind, body, e, k, b, want)
	}
}

// reads asks for Pages, and for all pages that stand, and some that do not.
func (w *twin) reads() {
	w.t.Helper()
	l := w.x.Pages()
	if want := rising(w.mx.stands); !slices.Equal(l, want) {
		w.t.Fatalf("Pages: %v, not %v", l, want)
	}
	for _, page := range append(l, noPages...) {
		w.read(page)
		w.read(page + 1)
	}
}

// commit commits, and asks for what is behind it.
func (w *twin) commit() api.Errno {
	w.t.Helper()
	ops := w.d.Ops()
	e := w.x.Commit()
	steps, next, want := w.mx.commit()
	if e != want || w.d.Ops()-ops != len(steps) {
		w.t.Fatalf("Commit: %d with %d operations, not %d with %d", e, w.d.Ops()-ops, want, len(steps))
	}
	if e == api.OK {
		next.sectors = behind(w.m.sectors, steps)
		w.m = next
	}
	w.alike()
	return e
}

func (w *twin) abort() {
	w.t.Helper()
	w.x.Abort()
	w.alike()
}

// alike asks for all that is to be seen of a pager that is not dead.
func (w *twin) alike() {
	w.t.Helper()
	looks(w.t, w.p, w.m.left(), w.m.epoch, false)
	w.stands(w.m.sectors)
	if n := w.d.Pending(); n != 0 {
		w.t.Fatalf("%d writes wait", n)
	}
}

// looks asks for Left, Epoch and Dead.
func looks(t *testing.T, p *pager.Pager, left int, epoch uint64, dead bool) {
	t.Helper()
	if p.Left() != left || p.Epoch() != epoch || p.Dead() != dead {
		t.Fatalf("%d left, epoch %d, dead %v; not %d, %d, %v", p.Left(), p.Epoch(), p.Dead(), left, epoch, dead)
	}
}

// stands asks what stands in each sector.
func (w *twin) stands(want []string) {
	w.t.Helper()
	for i := range want {
		if s, e := w.d.Read(i); s != want[i] || e != api.OK {
			w.t.Fatalf("sector %d: % x, %d, not % x", i, s, e, want[i])
		}
	}
}

// noPages are numbers of no page.
var noPages = []int{-1 << 63, -961, -1, 0, 961, 1023, 1024, 1 << 16, 1<<63 - 1}
