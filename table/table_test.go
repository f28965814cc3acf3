package table_test

import (
	"math/rand"
	"slices"
	"testing"

	"foyer/api"
	"foyer/table"
)

// The chapter's examples.
func TestExamples(t *testing.T) {
	to := table.New()
	if a, b := to.Set(1, 2), to.Set(121, 1023); a != api.OK || b != api.OK || to.Get(121) != 1023 {
		t.Error(a, b, to.Get(121))
	}
	if l := to.Dirty(); !slices.Equal(l, []int{0, 1}) {
		t.Error(l)
	}
	if page, e := to.Lowest(); page != 2 || e != api.OK {
		t.Error(page, e)
	}
	if l := to.Sectors(); !slices.Equal(l, []int{2, 1023}) {
		t.Error(l)
	}
	for _, wrong := range [][2]int{{0, 5}, {961, 5}, {3, 1}, {3, 1024}} {
		if e := to.Set(wrong[0], wrong[1]); e != api.ErrArg {
			t.Error(wrong, e)
		}
	}
	if e := to.Drop(3); e != api.ErrNone {
		t.Error(e)
	}
	to.Clean()
	if e := to.Set(1, 2); e != api.OK || len(to.Dirty()) != 0 {
		t.Error(e, to.Dirty())
	}
	if e := to.Drop(1); e != api.OK || !slices.Equal(to.Dirty(), []int{0}) {
		t.Error(e, to.Dirty())
	}
}

// P9.1: of a new table no page stands in a sector, and no chunk is dirty; two new ones are two.
func TestNew(t *testing.T) {
	one, p := both(t)
	p.alike(t, one)
	two := table.New()
	two.Set(5, 6)
	p.alike(t, one)
}

// P9.1: Set, Get and Drop at the borders of the chunks and of all.
func TestPages(t *testing.T) {
	for _, page := range append([]int{2, 500, 959}, ends...) {
		to, p := both(t)
		p.drops(t, to, page, api.ErrNone)
		p.alike(t, to)
		p.sets(t, to, page, 77, api.OK)
		p.alike(t, to)
		p.drops(t, to, page, api.OK)
		p.alike(t, to)
		p.drops(t, to, page, api.ErrNone)
		p.alike(t, to)
		p.sets(t, to, page, 1023, api.OK)
		p.alike(t, to)
	}
}

// P9.1: what is no page can't be set, nor dropped, and nothing is done.
func TestNoPages(t *testing.T) {
	to, p := both(t, 1, 120, 121, 960)
	p.cleans(to)
	for _, page := range noPages {
		for _, sector := range append([]int{2, 300, 1023}, noSectors...) {
			p.sets(t, to, page, sector, api.ErrArg)
		}
		p.drops(t, to, page, api.ErrNone)
		p.alike(t, to)
	}
}

// P9.1: of the sectors 2 and 1023 are the first and the last one; with what is none the page stands where it stood.
func TestSectorsOfPages(t *testing.T) {
	for _, page := range ends {
		to, p := both(t)
		p.sets(t, to, page, 2, api.OK)
		p.alike(t, to)
		p.sets(t, to, page, 1023, api.OK)
		p.alike(t, to)
		p.cleans(to)
		for _, sector := range noSectors {
			p.sets(t, to, page, sector, api.ErrArg)
			p.alike(t, to)
		}
		p.drops(t, to, page, api.OK)
		p.cleans(to)
		for _, sector := range noSectors {
			p.sets(t, to, page, sector, api.ErrArg)
			p.alike(t, to)
		}
	}
}

// P9.1: a page may be set to each sector of pages.
func TestAllSectors(t *testing.T) {
	to, p := both(t)
	for sector := -3; sector < 1100; sector++ {
		want := api.ErrArg
		if sector >= 2 && sector <= 1023 {
			want = api.OK
		}
		p.sets(t, to, 9, sector, want)
		if to.Get(9) != p.stands[9] {
			t.Fatal(sector, to.Get(9))
		}
	}
	p.alike(t, to)
}

// P9.1: a page that stands there already is not changed, so its chunk is as dirty or clean as it was; one that stands elsewhere is.
func TestSetAgain(t *testing.T) {
	for _, page := range ends {
		to, p := both(t, page)
		p.sets(t, to, page, 2, api.OK)
		p.alike(t, to)
		p.cleans(to)
		p.sets(t, to, page, 2, api.OK)
		p.alike(t, to)
		p.sets(t, to, page, 3, api.OK)
		p.alike(t, to)
		// Back where it stood, it was changed all the same.
		p.sets(t, to, page, 2, api.OK)
		p.alike(t, to)
	}
}

// P9.1: two pages may stand in one sector, of one chunk or of two, and each goes alone.
func TestOneSector(t *testing.T) {
	for _, pair := range [][2]int{{1, 2}, {120, 121}, {1, 960}} {
		to, p := both(t)
		p.sets(t, to, pair[0], 44, api.OK)
		p.sets(t, to, pair[1], 44, api.OK)
		p.alike(t, to)
		p.drops(t, to, pair[0], api.OK)
		p.alike(t, to)
		p.sets(t, to, pair[1], 45, api.OK)
		p.alike(t, to)
	}
}

// P9.1, P9.3: a change makes its own chunk dirty, and no other one.
func TestDirtyOf(t *testing.T) {
	for k, page := range ends {
		to, _ := both(t)
		to.Set(page, 2)
		if l := to.Dirty(); !slices.Equal(l, []int{k / 2}) {
			t.Errorf("Set(%d): %v", page, l)
		}
		to.Clean()
		to.Set(page, 2)
		to.Set(page, 1024)
		if l := to.Dirty(); len(l) != 0 {
			t.Errorf("Set(%d) to where it stood, and to nowhere: %v", page, l)
		}
		to.Drop(page)
		if l := to.Dirty(); !slices.Equal(l, []int{k / 2}) {
			t.Errorf("Drop(%d): %v", page, l)
		}
		to.Clean()
		to.Drop(page)
		if l := to.Dirty(); len(l) != 0 {
			t.Errorf("Drop(%d) again: %v", page, l)
		}
	}
}

// span are the pages from the first to the last one.
func span(first, last int) []int {
	var l []int
	for page := first; page <= last; page++ {
		l = append(l, page)
	}
	return l
}

// lowest asks for what Lowest answers.
func lowest(t *testing.T, to *table.Table, want int, we api.Errno) {
	t.Helper()
	if page, e := to.Lowest(); page != want || e != we {
		t.Fatalf("Lowest: %d, %d; not %d, %d", page, e, want, we)
	}
}

// P9.2: the lowest page that stands in none.
func TestLowest(t *testing.T) {
	to := table.New()
	lowest(t, to, 1, api.OK)
	lowest(t, to, 1, api.OK)
	for page := 1; page <= 960; page++ {
		if e := to.Set(page, 2+page%1022); e != api.OK {
			t.Fatal(page, e)
		}
		if page < 960 {
			lowest(t, to, page+1, api.OK)
		}
	}
	lowest(t, to, 0, api.ErrFull)
	for _, page := range []int{960, 841, 500, 121, 120, 1} {
		to.Drop(page)
		lowest(t, to, page, api.OK)
	}
	to.Set(1, 9)
	lowest(t, to, 120, api.OK)
	for _, page := range []int{120, 121, 500, 841, 960} {
		to.Set(page, 1023)
	}
	lowest(t, to, 0, api.ErrFull)
}

// P9.2: a gap ahead of pages that stand.
func TestLowestGap(t *testing.T) {
	to, p := both(t, slices.Concat(span(1, 130), span(132, 200), span(202, 300))...)
	lowest(t, to, 131, api.OK)
	p.sets(t, to, 131, 500, api.OK)
	lowest(t, to, 201, api.OK)
	to, _ = both(t, span(2, 960)...)
	lowest(t, to, 1, api.OK)
	to, _ = both(t, span(1, 959)...)
	lowest(t, to, 960, api.OK)
	to, _ = both(t, span(121, 240)...)
	lowest(t, to, 1, api.OK)
}

// P9.2: sectors come page by page, in whatever order they were set, also those in which two stand.
func TestSectorsOrder(t *testing.T) {
	to := table.New()
	if l := to.Sectors(); len(l) != 0 {
		t.Error(l)
	}
	for _, s := range [][2]int{{960, 2}, {1, 1023}, {121, 7}, {120, 800}, {2, 7}, {840, 3}, {841, 2}} {
		to.Set(s[0], s[1])
	}
	if l := to.Sectors(); !slices.Equal(l, []int{1023, 7, 800, 7, 3, 2, 2}) {
		t.Error(l)
	}
	to.Drop(120)
	to.Set(1, 5)
	if l := to.Sectors(); !slices.Equal(l, []int{5, 7, 7, 3, 2, 2}) {
		t.Error(l)
	}
	r := rand.New(rand.NewSource(9))
	pages := r.Perm(960)
	for _, at := range pages {
		to.Set(at+1, 2+(at*7)%1022)
	}
	for at, sector := range to.Sectors() {
		if sector != 2+(at*7)%1022 {
			t.Fatal(at, sector)
		}
	}
	if n := len(to.Sectors()); n != 960 {
		t.Error(n)
	}
}

// R5: what is answered is new.
func TestAnswersNew(t *testing.T) {
	to, p := both(t, 1, 121, 960)
	for range 2 {
		clear(to.Sectors())
		clear(to.Dirty())
		p.alike(t, to)
	}
	sectors, dirty := to.Sectors(), to.Dirty()
	p.sets(t, to, 1, 9, api.OK)
	p.cleans(to)
	if !slices.Equal(sectors, []int{2, 3, 4}) || !slices.Equal(dirty, []int{0, 1, 7}) {
		t.Error(sectors, dirty)
	}
}

// P9.4: a copy is a table of its own, in which all is the same, dirty chunks also.
func TestCopy(t *testing.T) {
	to, p := both(t, 1, 120, 121, 500, 960)
	to.Clean()
	p.cleans(to)
	p.drops(t, to, 120, api.OK)
	p.sets(t, to, 960, 300, api.OK)
	own, q := to.Copy(), p.copied()
	q.alike(t, own)
	q.sets(t, own, 1, 900, api.OK)
	q.sets(t, own, 300, 901, api.OK)
	q.drops(t, own, 500, api.OK)
	q.alike(t, own)
	p.alike(t, to)
	q.cleans(own)
	q.alike(t, own)
	p.alike(t, to)
	p.sets(t, to, 2, 700, api.OK)
	p.drops(t, to, 121, api.OK)
	p.loads(t, to, 7, p.text(3))
	p.alike(t, to)
	q.alike(t, own)
	newPlain().alike(t, table.New().Copy())
	q.alike(t, own.Copy().Copy())
}

// P9.4, R3: of a table that is none.
func TestNoTable(t *testing.T) {
	var none *table.Table
	for _, page := range append([]int{1, 960}, noPages...) {
		if sector, e := none.Get(page), none.Drop(page); sector != 0 || e != api.ErrNil {
			t.Error(page, sector, e)
		}
		for _, sector := range append([]int{2, 1023}, noSectors...) {
			if e := none.Set(page, sector); e != api.ErrNil {
				t.Error(page, sector, e)
			}
		}
	}
	if page, e := none.Lowest(); page != 0 || e != api.ErrNil {
		t.Error(page, e)
	}
	if none.Sectors() != nil || none.Dirty() != nil || none.Copy() != nil {
		t.Error(none.Sectors(), none.Dirty(), none.Copy())
	}
	for _, i := range append([]int{0, 7}, noChunks...) {
		if s := none.Chunk(i); s != "" {
			t.Errorf("Chunk(%d): % x", i, s)
		}
		for _, s := range []string{"", "x", table.New().Chunk(0)} {
			isFault(t, none.Load(i, s), api.ErrNil, 0)
		}
	}
	none.Clean()
}

// R1: a table that New did not make is taken as one that it made.
func TestZeroTable(t *testing.T) {
	to, p := new(table.Table), newPlain()
	p.alike(t, to)
	p.drops(t, to, 1, api.ErrNone)
	p.sets(t, to, 121, 2, api.OK)
	p.loads(t, to, 7, p.text(1))
	p.alike(t, to)
	p.alike(t, to.Copy())
	p.cleans(to)
	p.alike(t, to)
}
