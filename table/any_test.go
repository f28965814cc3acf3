package table_test

import (
	"math/rand"
	"testing"

	"foyer/api"
	"foyer/table"
)

// anyPage is a page there is, often at a border of chunks, now and then one there is not.
func anyPage(r *rand.Rand) int {
	switch r.Intn(12) {
	case 0:
		return noPages[r.Intn(len(noPages))]
	case 1, 2, 3:
		return ends[r.Intn(len(ends))]
	case 4, 5:
		return 1 + r.Intn(5)
	}
	return 1 + r.Intn(960)
}

// anySector is a sector of pages, now and then one that is none.
func anySector(r *rand.Rand) int {
	switch r.Intn(12) {
	case 0:
		return noSectors[r.Intn(len(noSectors))]
	case 1, 2:
		return 2 + r.Intn(3)
	}
	return 2 + r.Intn(1022)
}

// change does one Set or Drop to both, and asks that they answer alike.
func change(t *testing.T, r *rand.Rand, to *table.Table, p *plain) {
	t.Helper()
	page, sector := anyPage(r), anySector(r)
	if r.Intn(3) == 0 {
		if e, want := to.Drop(page), p.drop(page); e != want {
			t.Fatalf("Drop(%d): %d, not %d", page, e, want)
		}
		return
	}
	if r.Intn(4) == 0 && p.stands[page] != 0 {
		sector = p.stands[page]
	}
	if e, want := to.Set(page, sector), p.set(page, sector); e != want {
		t.Fatalf("Set(%d, %d): %d, not %d", page, sector, e, want)
	}
}

// P9.1 to P9.4: rows of calls of all sorts, by the chapter's words; what a table goes through does not change its copies.
func TestAny(t *testing.T) {
	r := rand.New(rand.NewSource(9))
	for range 40 {
		to, p := both(t)
		was, wp := to.Copy(), p.copied()
		for k := range 400 {
			switch r.Intn(20) {
			case 0:
				p.cleans(to)
			case 1:
				i, s := r.Intn(8), to.Chunk(r.Intn(8))
				p.loads(t, to, i, s)
			case 2:
				isFault(t, to.Load(r.Intn(8), with(full(), 119, 1024+r.Intn(9))), api.ErrForm, 238)
			case 3:
				to = to.Copy()
			default:
				change(t, r, to, p)
			}
			if k%40 == 0 {
				p.alike(t, to)
				wp.alike(t, was)
				was, wp = to.Copy(), p.copied()
			}
		}
		p.alike(t, to)
	}
}

// comesBack asks that a new table into which all texts are loaded is the same, with nothing dirty.
func comesBack(t *testing.T, r *rand.Rand, to *table.Table, p *plain) {
	t.Helper()
	again := table.New()
	for _, i := range r.Perm(8) {
		if err := again.Load(i, to.Chunk(i)); err != nil {
			t.Fatalf("Load(%d): %v", i, err)
		}
	}
	clean := p.copied()
	clean.dirty = [8]bool{}
	clean.alike(t, again)
}

// P9.5: a table comes back, chunk by chunk, from its texts; a chunk that is not dirty has the text that it had when the table was cleaned.
func TestBack(t *testing.T) {
	r := rand.New(rand.NewSource(95))
	for round := range 200 {
		to, p := both(t)
		for range r.Intn(300) {
			change(t, r, to, p)
		}
		p.cleans(to)
		var texts [8]string
		for i := range texts {
			texts[i] = to.Chunk(i)
		}
		for range round % 12 {
			change(t, r, to, p)
		}
		dirty := map[int]int{}
		for _, i := range to.Dirty() {
			dirty[i]++
		}
		for i, s := range texts {
			if dirty[i] == 0 {
				chunkIs(t, to, i, s)
			}
		}
		p.alike(t, to)
		comesBack(t, r, to, p)
	}
}

// P9.5: the same of a table of which all pages stand.
func TestBackFull(t *testing.T) {
	r := rand.New(rand.NewSource(960))
	to, p := both(t, span(1, 960)...)
	comesBack(t, r, to, p)
	for range 3000 {
		change(t, r, to, p)
	}
	comesBack(t, r, to, p)
}
