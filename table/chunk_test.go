package table_test

import (
	"errors"
	"slices"
	"strings"
	"testing"

	"foyer/api"
	"foyer/table"
)

// blank is the text of a chunk of which no page stands anywhere.
var blank = strings.Repeat("\x00", 240)

// with is a chunk's text in which the page at those places has those numbers: place, number, place, number.
func with(s string, numbers ...int) string {
	b := []byte(s)
	for k := 0; k < len(numbers); k += 2 {
		at := 2 * numbers[k]
		b[at], b[at+1] = byte(numbers[k+1]/256), byte(numbers[k+1]%256)
	}
	return string(b)
}

// full is a chunk's text of which each page stands in a sector.
func full() string {
	s := blank
	for at := range 120 {
		s = with(s, at, 2+(at*97)%1022)
	}
	return s
}

// chunkIs asks for a chunk's text.
func chunkIs(t *testing.T, to *table.Table, i int, want string) {
	t.Helper()
	if s := to.Chunk(i); s != want {
		t.Fatalf("Chunk(%d): % x, not % x", i, s, want)
	}
}

// P9.3: a chunk's text, page by page, the highest digit first; none of what is no chunk.
func TestChunk(t *testing.T) {
	for i := range 8 {
		to := table.New()
		first := 120*i + 1
		for k := range 8 {
			chunkIs(t, to, k, blank)
		}
		to.Set(first, 2)
		to.Set(first+1, 258)
		to.Set(first+2, 255)
		to.Set(first+60, 256)
		to.Set(first+119, 1023)
		chunkIs(t, to, i, "\x00\x02\x01\x02\x00\xff"+blank[6:120]+"\x01\x00"+blank[122:238]+"\x03\xff")
		to.Drop(first + 1)
		chunkIs(t, to, i, "\x00\x02\x00\x00\x00\xff"+blank[6:120]+"\x01\x00"+blank[122:238]+"\x03\xff")
		for k := range 8 {
			if k != i {
				chunkIs(t, to, k, blank)
			}
		}
		for _, k := range noChunks {
			chunkIs(t, to, k, "")
		}
	}
}

// P9.3: Load lays a text into its own chunk, and into any other one, and touches none beside it.
func TestLoad(t *testing.T) {
	for i := range 8 {
		to, p := both(t, ends...)
		text := p.text(i)
		for k := range 8 {
			p.loads(t, to, k, text)
			p.alike(t, to)
		}
	}
	for i := range 8 {
		for _, s := range []string{blank, full(), with(blank, 0, 2), with(blank, 119, 1023), with(full(), 0, 0, 119, 0, 50, 0)} {
			to, p := both(t, span(1, 960)...)
			p.cleans(to)
			p.loads(t, to, i, s)
			p.alike(t, to)
			chunkIs(t, to, i, s)
		}
	}
}

// P9.3: the chunk that is loaded is not dirty, and the others are as they were.
func TestLoadDirty(t *testing.T) {
	for i := range 8 {
		for _, s := range []string{blank, full()} {
			to, p := both(t)
			p.loads(t, to, i, s)
			p.alike(t, to)
			to, p = both(t, ends...)
			p.loads(t, to, i, s)
			p.alike(t, to)
			p.sets(t, to, 120*i+3, 999, api.OK)
			p.alike(t, to)
			p.cleans(to)
			p.drops(t, to, 120*((i+1)%8)+1, api.OK)
			p.loads(t, to, i, s)
			p.alike(t, to)
			// Set to where the text put it, it is not changed.
			p.sets(t, to, 120*i+4, 5, api.OK)
			p.loads(t, to, i, with(s, 3, 7))
			p.sets(t, to, 120*i+4, 7, api.OK)
			p.alike(t, to)
		}
	}
}

// fails asks for a Load's fault, and that nothing has changed by it.
func fails(t *testing.T, to *table.Table, p *plain, i int, s string, code api.Errno, at int) {
	t.Helper()
	isFault(t, to.Load(i, s), code, at)
	p.alike(t, to)
}

// spoiled are a table with dirty chunks and clean ones, on which a Load with a fault is tried.
func spoiled(t *testing.T) (*table.Table, *plain) {
	t.Helper()
	to, p := both(t, span(1, 960)...)
	p.drops(t, to, 7, api.OK)
	p.drops(t, to, 477, api.OK)
	p.cleans(to)
	p.sets(t, to, 2, 1000, api.OK)
	p.drops(t, to, 841, api.OK)
	return to, p
}

// P9.3: no such chunk is told first, whatever the text is.
func TestLoadNoChunk(t *testing.T) {
	to, p := spoiled(t)
	for _, i := range noChunks {
		for _, s := range []string{blank, full(), "", "x", full() + "x", with(full(), 9, 1), strings.Repeat("\xff", 241)} {
			fails(t, to, p, i, s, api.ErrArg, 0)
		}
	}
}

// P9.3: a text that has not 240 bytes is told by how many it has, also where a number in it is wrong.
func TestLoadSize(t *testing.T) {
	to, p := spoiled(t)
	for _, long := range []int{0, 1, 2, 3, 119, 120, 121, 238, 239, 241, 242, 255, 256, 479, 480, 481, 1000, 65536, 1 << 20} {
		for _, of := range []string{full(), blank, "\xff", "\x00\x01", with(full(), 0, 1), with(full(), 119, 1024)} {
			s := strings.Repeat(of, long/len(of)+1)[:long]
			fails(t, to, p, long%8, s, api.ErrLong, long)
		}
	}
}

// P9.3: a number that is no sector of pages, at each page: At its first byte.
func TestLoadForm(t *testing.T) {
	to, p := spoiled(t)
	for _, wrong := range []int{1, 1024, 1025, 1279, 2048, 32768, 65280, 65534, 65535} {
		for _, at := range []int{0, 1, 59, 60, 118, 119} {
			for _, s := range []string{blank, full()} {
				fails(t, to, p, at%8, with(s, at, wrong), api.ErrForm, 2*at)
			}
		}
	}
	for at := range 120 {
		isFault(t, to.Load(3, with(full(), at, 1)), api.ErrForm, 2*at)
		isFault(t, to.Load(3, with(blank, at, 1024)), api.ErrForm, 2*at)
	}
	p.alike(t, to)
}

// P9.3: of several wrong numbers the first page's is told.
func TestLoadFormFirst(t *testing.T) {
	to, p := spoiled(t)
	fails(t, to, p, 0, with(full(), 119, 1, 118, 1), api.ErrForm, 236)
	fails(t, to, p, 0, with(full(), 0, 65535, 1, 1), api.ErrForm, 0)
	fails(t, to, p, 7, with(blank, 5, 1, 4, 1024, 119, 65535), api.ErrForm, 8)
	fails(t, to, p, 7, with(blank, 5, 1024, 70, 1, 0, 1023), api.ErrForm, 10)
	fails(t, to, p, 4, strings.Repeat("\xff", 240), api.ErrForm, 0)
	fails(t, to, p, 4, strings.Repeat("\x00\x01", 120), api.ErrForm, 0)
}

// P9.3: each number of two bytes: right are 0 and the sectors of pages.
func TestLoadNumbers(t *testing.T) {
	to := table.New()
	for n := range 1 << 16 {
		err := to.Load(5, with(blank, 3, n))
		if n == 0 || n >= 2 && n <= 1023 {
			if err != nil || to.Get(604) != n {
				t.Fatal(n, err, to.Get(604))
			}
			continue
		}
		isFault(t, err, api.ErrForm, 6)
		if sector := to.Get(604); sector != 1023 && n != 1 || n == 1 && sector != 0 {
			t.Fatal(n, sector)
		}
	}
}

// P9.3: what Load answers of a right text is no error at all, and of a wrong one just one number.
func TestLoadError(t *testing.T) {
	to := table.New()
	var f *api.Fault
	if err := to.Load(0, full()); err != nil || errors.As(err, &f) || errors.Is(err, api.OK) {
		t.Error(err)
	}
	for i, want := range map[int]api.Errno{-1: api.ErrArg, 0: api.ErrLong} {
		err := to.Load(i, "")
		for e := api.OK; e <= api.LastErrno; e++ {
			if errors.Is(err, e) != (e == want) {
				t.Errorf("Load(%d): %v is %d", i, err, e)
			}
		}
	}
}

// P9.3: none dirty, some, and all; they rise, whatever the order of the changes.
func TestDirty(t *testing.T) {
	to := table.New()
	dirty := func(want ...int) {
		t.Helper()
		if l := to.Dirty(); !slices.Equal(l, want) {
			t.Fatalf("%v, not %v", l, want)
		}
	}
	dirty()
	to.Clean()
	dirty()
	to.Set(960, 2)
	dirty(7)
	to.Set(121, 2)
	to.Set(122, 2)
	dirty(1, 7)
	to.Drop(960)
	to.Set(481, 9)
	dirty(1, 4, 7)
	to.Clean()
	dirty()
	for i := 7; i >= 0; i-- {
		to.Set(120*i+60, 10+i)
	}
	dirty(0, 1, 2, 3, 4, 5, 6, 7)
	for i := range 8 {
		if err := to.Load(i, blank); err != nil {
			t.Fatal(err)
		}
	}
	dirty()
}

// P9.3: Clean leaves the pages where they stand.
func TestClean(t *testing.T) {
	to, p := both(t, span(100, 900)...)
	p.cleans(to)
	p.alike(t, to)
	p.cleans(to)
	p.alike(t, to)
}
