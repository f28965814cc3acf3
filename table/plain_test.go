package table_test

import (
	"errors"
	"math"
	"slices"
	"testing"

	"foyer/api"
	"foyer/table"
)

// plain is the chapter's words, page by page: the sectors of those that stand in one, and which chunks are dirty.
type plain struct {
	stands map[int]int
	dirty  [8]bool
}

func newPlain() *plain { return &plain{stands: map[int]int{}} }

func (p *plain) copied() *plain {
	own := &plain{stands: map[int]int{}, dirty: p.dirty}
	for page, sector := range p.stands {
		own.stands[page] = sector
	}
	return own
}

// chunkOf is the chunk of a page: the chunk i begins at the page 120 i + 1.
func chunkOf(page int) int {
	i := 0
	for page > 120*i+120 {
		i++
	}
	return i
}

func (p *plain) set(page, sector int) api.Errno {
	if page < 1 || page > 960 || sector < 2 || sector > 1023 {
		return api.ErrArg
	}
	if p.stands[page] != sector {
		p.stands[page] = sector
		p.dirty[chunkOf(page)] = true
	}
	return api.OK
}

func (p *plain) drop(page int) api.Errno {
	if p.stands[page] == 0 {
		return api.ErrNone
	}
	delete(p.stands, page)
	p.dirty[chunkOf(page)] = true
	return api.OK
}

func (p *plain) lowest() (int, api.Errno) {
	for page := 1; page <= 960; page++ {
		if p.stands[page] == 0 {
			return page, api.OK
		}
	}
	return 0, api.ErrFull
}

func (p *plain) sectors() []int {
	var l []int
	for page := 1; page <= 960; page++ {
		if p.stands[page] != 0 {
			l = append(l, p.stands[page])
		}
	}
	return l
}

func (p *plain) text(i int) string {
	var b []byte
	for page := 120*i + 1; page <= 120*i+120; page++ {
		b = append(b, byte(p.stands[page]/256), byte(p.stands[page]%256))
	}
	return string(b)
}

// load is a Load of a chunk there is, and a text that is right.
func (p *plain) load(i int, s string) {
	for k := range 120 {
		delete(p.stands, 120*i+1+k)
		if sector := 256*int(s[2*k]) + int(s[2*k+1]); sector != 0 {
			p.stands[120*i+1+k] = sector
		}
	}
	p.dirty[i] = false
}

func (p *plain) dirties() []int {
	var l []int
	for i, d := range p.dirty {
		if d {
			l = append(l, i)
		}
	}
	return l
}

// alike asks that a table tells of itself what the words say, by all that looks at it.
func (p *plain) alike(t *testing.T, got *table.Table) {
	t.Helper()
	if got == nil {
		t.Fatal("no table")
	}
	for page := 1; page <= 960; page++ {
		if sector := got.Get(page); sector != p.stands[page] {
			t.Fatalf("Get(%d): %d, not %d", page, sector, p.stands[page])
		}
	}
	for _, page := range noPages {
		if sector := got.Get(page); sector != 0 {
			t.Fatalf("Get(%d): %d, of no page", page, sector)
		}
	}
	page, e := got.Lowest()
	if want, we := p.lowest(); page != want || e != we {
		t.Fatalf("Lowest: %d, %d; not %d, %d", page, e, want, we)
	}
	if l := got.Sectors(); !slices.Equal(l, p.sectors()) {
		t.Fatalf("Sectors: %v, not %v", l, p.sectors())
	}
	if l := got.Dirty(); !slices.Equal(l, p.dirties()) {
		t.Fatalf("Dirty: %v, not %v", l, p.dirties())
	}
	p.texts(t, got)
}

// texts asks for the text of each chunk, and for none of what is no chunk.
func (p *plain) texts(t *testing.T, got *table.Table) {
	t.Helper()
	for i := range 8 {
		if s := got.Chunk(i); s != p.text(i) {
			t.Fatalf("Chunk(%d): % x, not % x", i, s, p.text(i))
		}
	}
	for _, i := range noChunks {
		if s := got.Chunk(i); s != "" {
			t.Fatalf("Chunk(%d): % x, of no chunk", i, s)
		}
	}
}

var (
	// noPages are numbers of no page, noSectors of no sector of pages, noChunks of no chunk.
	noPages   = []int{0, -1, -960, 961, 962, 1024, 1 << 16, 1<<16 + 1, 1<<32 + 1, math.MinInt, math.MaxInt}
	noSectors = []int{1, 0, -1, -2, 1024, 1025, 1 << 16, 1<<16 + 2, 1<<32 + 2, math.MinInt, math.MaxInt}
	noChunks  = []int{-1, 8, -8, 9, 120, 1 << 32, math.MinInt, math.MaxInt}
	// ends are the first and the last page of each chunk.
	ends = []int{1, 120, 121, 240, 241, 360, 361, 480, 481, 600, 601, 720, 721, 840, 841, 960}
)

// sets asks for what a Set answers, and does the same to the plain one.
func (p *plain) sets(t *testing.T, to *table.Table, page, sector int, want api.Errno) {
	t.Helper()
	if e := to.Set(page, sector); e != want || p.set(page, sector) != want {
		t.Fatalf("Set(%d, %d): %d, not %d", page, sector, e, want)
	}
}

// drops asks for what a Drop answers, and does the same to the plain one.
func (p *plain) drops(t *testing.T, to *table.Table, page int, want api.Errno) {
	t.Helper()
	if e := to.Drop(page); e != want || p.drop(page) != want {
		t.Fatalf("Drop(%d): %d, not %d", page, e, want)
	}
}

// loads asks that a Load of a right text answers nil, and does the same to the plain one.
func (p *plain) loads(t *testing.T, to *table.Table, i int, s string) {
	t.Helper()
	if err := to.Load(i, s); err != nil {
		t.Fatalf("Load(%d, % x): %v", i, s, err)
	}
	p.load(i, s)
}

// cleans makes both clean.
func (p *plain) cleans(to *table.Table) {
	to.Clean()
	p.dirty = [8]bool{}
}

// isFault asks for a *api.Fault, found by its type, and by its number.
func isFault(t *testing.T, err error, code api.Errno, at int) {
	t.Helper()
	var f *api.Fault
	if !errors.As(err, &f) || f == nil || f.Code != code || f.At != at || !errors.Is(err, code) {
		t.Fatalf("%#v, not the fault %d at %d", err, code, at)
	}
}

// both is a new table, and the plain one, of which these pages stand in the sectors 2, 3 and so on.
func both(t *testing.T, pages ...int) (*table.Table, *plain) {
	t.Helper()
	to, p := table.New(), newPlain()
	for k, page := range pages {
		p.sets(t, to, page, 2+k, api.OK)
	}
	return to, p
}
