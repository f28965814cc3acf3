package root_test

import (
	"encoding/binary"
	"math"
	"math/rand"
	"strings"
	"testing"

	"foyer/api"
	"foyer/root"
)

const (
	size    = 256
	behind  = 26
	againAt = 248
	// highest is an Epoch of which the highest bit alone is set.
	highest = uint64(1) << 63
)

var (
	blank = strings.Repeat("\x00", size)
	// epochs are those at the edges, and ordinary ones, rising.
	epochs = []uint64{1, 2, 3, 4, 5, 127, 128, 255, 256, 257, 65535, 65536, 1 << 24, 1<<32 - 1, 1 << 32, 1 << 56, 0x0102030405060708, math.MaxInt, highest, highest + 1, math.MaxUint64}
	// bounds are Sectors that may be.
	bounds = []int{64, 65, 100, 255, 256, 257, 512, 1023, 1024}
)

// chunksOf are chunks that a root of so many sectors may have.
func chunksOf(sectors int) [][8]int {
	return [][8]int{
		{},
		{2},
		{sectors - 1},
		{2, sectors - 1},
		{7: 2},
		{7: sectors - 1},
		{0, 0, 0, 5},
		{0, 3, 0, 0, 2, 0, 63},
		{2, 3, 4, 5, 6, 7, 8, 9},
		{9, 8, 7, 6, 5, 4, 3, 2},
		{sectors - 1, sectors - 2, 10, 2, 33, 3, 61, 60},
	}
}

// roots are roots that may be.
func roots() []api.Root {
	var l []api.Root
	for _, epoch := range epochs {
		for _, sectors := range bounds {
			for _, chunks := range chunksOf(sectors) {
				l = append(l, api.Root{Epoch: epoch, Sectors: sectors, Chunks: chunks})
			}
		}
	}
	return l
}

// laid is a sector as the chapter's words say it, of numbers that fit, whether they may be or not.
func laid(epoch uint64, sectors int, chunks [8]int, again uint64) string {
	b := make([]byte, size)
	binary.BigEndian.PutUint64(b, epoch)
	binary.BigEndian.PutUint16(b[8:], uint16(sectors))
	for i, c := range chunks {
		binary.BigEndian.PutUint16(b[10+2*i:], uint16(c))
	}
	binary.BigEndian.PutUint64(b[againAt:], again)
	return string(b)
}

// rootWith is a root of one chunk alone.
func rootWith(sectors, at, chunk int) api.Root {
	r := api.Root{Epoch: 9, Sectors: sectors}
	r.Chunks[at] = chunk
	return r
}

// puts asks for a root's sector.
func puts(t *testing.T, r api.Root) string {
	t.Helper()
	s, e := root.Put(r)
	if want := laid(r.Epoch, r.Sectors, r.Chunks, r.Epoch); s != want || e != api.OK {
		t.Fatalf("Put(%v): % x, %d; not % x", r, s, e, want)
	}
	return s
}

// noPut asks that a root may not be.
func noPut(t *testing.T, r api.Root) {
	t.Helper()
	if s, e := root.Put(r); s != "" || e != api.ErrArg {
		t.Errorf("Put(%v): %d bytes, %d; not ErrArg", r, len(s), e)
	}
}

// The chapter's example of Put.
func TestPutExample(t *testing.T) {
	s, e := root.Put(api.Root{Epoch: 1, Sectors: 64})
	want := "\x00\x00\x00\x00\x00\x00\x00\x01\x00\x40" + strings.Repeat("\x00", 238) + "\x00\x00\x00\x00\x00\x00\x00\x01"
	if s != want || len(s) != size || e != api.OK {
		t.Errorf("% x, %d", s, e)
	}
}

// P8.1: each number at its place, the highest byte first, noughts, and the Epoch once more.
func TestPutPlaces(t *testing.T) {
	r := api.Root{Epoch: 0x1112131415161718, Sectors: 0x0304, Chunks: [8]int{0x0102, 0x0203, 0x0301, 0, 0x0104, 0x02ff, 0x0303, 0x0035}}
	want := "\x11\x12\x13\x14\x15\x16\x17\x18" + "\x03\x04" +
		"\x01\x02\x02\x03\x03\x01\x00\x00\x01\x04\x02\xff\x03\x03\x00\x35" +
		strings.Repeat("\x00", 222) + "\x11\x12\x13\x14\x15\x16\x17\x18"
	if s, e := root.Put(r); s != want || len(s) != size || e != api.OK {
		t.Errorf("% x, %d; not % x", s, e, want)
	}
}

// P8.1: roots that may be, at all edges.
func TestPutMayBe(t *testing.T) {
	for _, r := range roots() {
		puts(t, r)
	}
	for chunk := 2; chunk < 1024; chunk++ {
		puts(t, rootWith(1024, chunk%8, chunk))
	}
	for sectors := 64; sectors <= 1024; sectors++ {
		puts(t, rootWith(sectors, sectors%8, sectors-1))
	}
}

// P8.1: an Epoch of 0.
func TestPutEpoch(t *testing.T) {
	for _, sectors := range bounds {
		for _, chunks := range chunksOf(sectors) {
			noPut(t, api.Root{Sectors: sectors, Chunks: chunks})
		}
	}
	noPut(t, api.Root{})
}

// P8.1: Sectors out of bounds, also those whose lowest 16 bits are within.
func TestPutSectors(t *testing.T) {
	for _, sectors := range []int{math.MinInt, -65536 + 64, -1024, -64, -1, 0, 1, 2, 62, 63, 1025, 1026, 65535, 65536, 65536 + 64, 65536 + 1024, 1<<32 + 100, math.MaxInt} {
		for _, epoch := range epochs {
			for _, chunks := range [][8]int{{}, {2}, {2, 3, 4}} {
				noPut(t, api.Root{Epoch: epoch, Sectors: sectors, Chunks: chunks})
			}
		}
	}
}

// P8.1: a chunk of a root's sector, of none, and at or above Sectors, at each place.
func TestPutChunk(t *testing.T) {
	for _, sectors := range bounds {
		for _, chunk := range []int{math.MinInt, -65536 + 2, -sectors, -2, -1, 1, sectors, sectors + 1, 1025, 65535, 65536, 65536 + 2, 1<<32 + 2, math.MaxInt} {
			for at := range 8 {
				for _, chunks := range [][8]int{{}, {2, 3, 4, 5, 6, 7, 8, 9}} {
					chunks[at] = chunk
					noPut(t, api.Root{Epoch: 3, Sectors: sectors, Chunks: chunks})
				}
			}
		}
	}
}

// P8.1: two chunks that are the same, at any two places; two that are none may be.
func TestPutTwice(t *testing.T) {
	for a := range 8 {
		for b := range a {
			for _, chunk := range []int{2, 3, 33, 63, 0} {
				r := api.Root{Epoch: 3, Sectors: 64, Chunks: [8]int{50, 51, 52, 53, 54, 55, 56, 57}}
				s := api.Root{Epoch: 3, Sectors: 64}
				r.Chunks[a], r.Chunks[b] = chunk, chunk
				s.Chunks[a], s.Chunks[b] = chunk, chunk
				if chunk == 0 {
					puts(t, r)
					puts(t, s)
					continue
				}
				noPut(t, r)
				noPut(t, s)
			}
		}
	}
	noPut(t, api.Root{Epoch: 3, Sectors: 64, Chunks: [8]int{5, 5, 5, 5, 5, 5, 5, 5}})
	// One that is the same as what stood two places ahead, and one as Sectors less 1.
	noPut(t, api.Root{Epoch: 3, Sectors: 64, Chunks: [8]int{63, 2, 63}})
}

// mayBe is what the chapter's words say of a root.
func mayBe(r api.Root) bool {
	if r.Epoch < 1 || r.Sectors < 64 || r.Sectors > 1024 {
		return false
	}
	for i, c := range r.Chunks {
		if c == 0 {
			continue
		}
		if c < 2 || c >= r.Sectors {
			return false
		}
		for _, d := range r.Chunks[:i] {
			if c == d {
				return false
			}
		}
	}
	return true
}

// P8.1: of any roots what the words say.
func TestPutAny(t *testing.T) {
	r := rand.New(rand.NewSource(8))
	some := map[bool]int{}
	for range 100000 {
		a := api.Root{Epoch: r.Uint64() >> r.Intn(65), Sectors: 60 + r.Intn(20)}
		if r.Intn(2) == 0 {
			a.Sectors = 1010 + r.Intn(20)
		}
		for i := range a.Chunks {
			if r.Intn(2) == 0 {
				a.Chunks[i] = r.Intn(90)
			}
		}
		some[mayBe(a)]++
		if mayBe(a) {
			puts(t, a)
			continue
		}
		noPut(t, a)
	}
	if some[true] < 1000 || some[false] < 1000 {
		t.Errorf("too few of a sort: %v", some)
	}
}
