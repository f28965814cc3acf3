package root_test

import (
	"math"
	"math/rand"
	"strings"
	"testing"

	"foyer/api"
	"foyer/root"
)

// gets asks that s is that root's sector.
func gets(t *testing.T, s string, want api.Root) {
	t.Helper()
	if r, e := root.Get(s); r != want || e != api.OK {
		t.Fatalf("Get(% x): %v, %d; not %v", s, r, e, want)
	}
}

// noGet asks that s is no root's sector, and why.
func noGet(t *testing.T, s string, want api.Errno) {
	t.Helper()
	if r, e := root.Get(s); r != (api.Root{}) || e != want {
		t.Fatalf("Get(%d bytes % x): %v, %d; not %d", len(s), s[:min(len(s), size)], r, e, want)
	}
}

// with is s, in which the byte at that place is another one.
func with(s string, at int, by byte) string {
	b := []byte(s)
	b[at] = by
	return string(b)
}

// The chapter's examples of Get.
func TestGetExamples(t *testing.T) {
	noGet(t, strings.Repeat("\x00", 256), api.ErrBlank)
	noGet(t, "", api.ErrForm)
}

// P8.1, P8.4: a root comes back from its sector.
func TestGetPut(t *testing.T) {
	for _, r := range roots() {
		gets(t, puts(t, r), r)
	}
}

// P8.1: what has not 256 bytes, whatever it is.
func TestGetSize(t *testing.T) {
	whole := puts(t, api.Root{Epoch: 7, Sectors: 64, Chunks: [8]int{2, 3}})
	for _, long := range []int{0, 1, 2, 8, 10, 26, 128, 248, 254, 255, 257, 258, 264, 511, 512, 513, 65536} {
		for _, of := range []string{whole, "\x00", "\xff"} {
			noGet(t, strings.Repeat(of, long/len(of)+1)[:long], api.ErrForm)
		}
	}
	noGet(t, whole+whole, api.ErrForm)
	noGet(t, whole+"\x00", api.ErrForm)
	noGet(t, "\x00"+whole, api.ErrForm)
	noGet(t, whole+blank, api.ErrForm)
	// A sector that lost its last byte, a nought, would be whole again if a nought were put in for it.
	noGet(t, puts(t, api.Root{Epoch: 256, Sectors: 64})[:255], api.ErrForm)
}

// P8.1: one byte that is no nought, and all else noughts, is not blank.
func TestGetNearlyBlank(t *testing.T) {
	for at := range size {
		for _, by := range []byte{1, 2, 64, 128, 255} {
			noGet(t, with(blank, at, by), api.ErrForm)
		}
	}
}

// P8.1: two Epochs that are unlike, by a bit of either one.
func TestGetEpochs(t *testing.T) {
	for _, r := range []api.Root{{Epoch: 5, Sectors: 64}, {Epoch: math.MaxInt, Sectors: 1024, Chunks: [8]int{2, 3}}, {Epoch: highest, Sectors: 100}} {
		s := puts(t, r)
		for bit := range 64 {
			noGet(t, laid(r.Epoch^1<<bit, r.Sectors, r.Chunks, r.Epoch), api.ErrForm)
			noGet(t, laid(r.Epoch, r.Sectors, r.Chunks, r.Epoch^1<<bit), api.ErrForm)
		}
		for i := range 8 {
			noGet(t, with(s, i, s[i]+1), api.ErrForm)
			noGet(t, with(s, againAt+i, s[againAt+i]+1), api.ErrForm)
		}
		noGet(t, laid(r.Epoch+1, r.Sectors, r.Chunks, r.Epoch), api.ErrForm)
		noGet(t, laid(r.Epoch, r.Sectors, r.Chunks, r.Epoch+1), api.ErrForm)
	}
}

// P8.1: the Epoch 0, at one of its places, or both.
func TestGetNoEpoch(t *testing.T) {
	for _, sectors := range bounds {
		for _, chunks := range chunksOf(sectors) {
			noGet(t, laid(0, sectors, chunks, 0), api.ErrForm)
			noGet(t, laid(0, sectors, chunks, 1), api.ErrForm)
			noGet(t, laid(1, sectors, chunks, 0), api.ErrForm)
		}
	}
}

// P8.1: an Epoch whose highest bit is set is above 0, as Epochs are numbers that are never below it.
func TestGetHighest(t *testing.T) {
	for _, epoch := range []uint64{highest, highest + 1, highest + 5, math.MaxUint64 - 1, math.MaxUint64} {
		r := api.Root{Epoch: epoch, Sectors: 64, Chunks: [8]int{2}}
		gets(t, puts(t, r), r)
		noGet(t, laid(epoch, 64, r.Chunks, epoch-highest), api.ErrForm)
		noGet(t, laid(epoch-highest, 64, r.Chunks, epoch), api.ErrForm)
	}
}

// P8.1: Sectors out of bounds.
func TestGetSectors(t *testing.T) {
	for _, sectors := range []int{0, 1, 2, 62, 63, 1025, 1026, 16384, 32768, 32768 + 64, 65535} {
		for _, chunks := range [][8]int{{}, {2}, {2, 3, 4}} {
			noGet(t, laid(5, sectors, chunks, 5), api.ErrForm)
		}
	}
}

// P8.1: chunks that may not be, at each place.
func TestGetChunk(t *testing.T) {
	for _, sectors := range bounds {
		for _, chunk := range []int{1, sectors, sectors + 1, 1025, 16384, 32768 + 2, 65535} {
			for at := range 8 {
				for _, chunks := range [][8]int{{}, {2, 3, 4, 5, 6, 7, 8, 9}} {
					chunks[at] = chunk
					noGet(t, laid(5, sectors, chunks, 5), api.ErrForm)
				}
			}
		}
	}
}

// P8.1: two chunks that are the same, at any two places.
func TestGetTwice(t *testing.T) {
	for a := range 8 {
		for b := range a {
			for _, chunk := range []int{2, 33, 63} {
				chunks := [8]int{50, 51, 52, 53, 54, 55, 56, 57}
				chunks[a], chunks[b] = chunk, chunk
				noGet(t, laid(5, 64, chunks, 5), api.ErrForm)
				alone := [8]int{}
				alone[a], alone[b] = chunk, chunk
				noGet(t, laid(5, 64, alone, 5), api.ErrForm)
			}
		}
	}
}

// P8.1: one byte that is no nought behind the chunks, ahead of the last Epoch, at each place.
func TestGetBehind(t *testing.T) {
	for _, r := range []api.Root{{Epoch: 5, Sectors: 64}, {Epoch: 5, Sectors: 1024, Chunks: [8]int{2, 3, 4, 5, 6, 7, 8, 1023}}} {
		s := puts(t, r)
		gets(t, s, r)
		for at := behind; at < againAt; at++ {
			for _, by := range []byte{1, 2, 128, 255} {
				noGet(t, with(s, at, by), api.ErrForm)
			}
		}
	}
}

// told is what the chapter's words say of 256 bytes.
func told(s string) (api.Root, api.Errno) {
	if s == blank {
		return api.Root{}, api.ErrBlank
	}
	number := func(from, width int) (n uint64) {
		for i := range width {
			n = n*256 + uint64(s[from+i])
		}
		return n
	}
	r := api.Root{Epoch: number(0, 8), Sectors: int(number(8, 2))}
	for i := range r.Chunks {
		r.Chunks[i] = int(number(10+2*i, 2))
	}
	if strings.Trim(s[behind:againAt], "\x00") != "" || s[againAt:] != s[:8] || !mayBe(r) {
		return api.Root{}, api.ErrForm
	}
	return r, api.OK
}

// P8.1: of any 256 bytes what the words say; and what is got is what would be put.
func TestGetAny(t *testing.T) {
	r := rand.New(rand.NewSource(88))
	some := map[api.Errno]int{}
	for range 50000 {
		epoch := r.Uint64() >> r.Intn(64)
		chunks := [8]int{}
		for i := range chunks {
			if r.Intn(2) == 0 {
				chunks[i] = 1 + r.Intn(120)
			}
		}
		s := laid(epoch, 62+r.Intn(100), chunks, epoch)
		for range r.Intn(2) * r.Intn(3) {
			s = with(s, r.Intn(size), byte(r.Intn(3)))
		}
		want, why := told(s)
		some[why]++
		if why != api.OK {
			noGet(t, s, why)
			continue
		}
		gets(t, s, want)
		if again := puts(t, want); again != s {
			t.Fatalf("% x is put as % x", s, again)
		}
	}
	if some[api.OK] < 1000 || some[api.ErrForm] < 1000 {
		t.Errorf("too few of a sort: %v", some)
	}
}

// R5, R6: the same is answered again.
func TestGetAgain(t *testing.T) {
	r := api.Root{Epoch: 11, Sectors: 80, Chunks: [8]int{4, 0, 6}}
	for range 3 {
		gets(t, puts(t, r), r)
		noGet(t, blank, api.ErrBlank)
		noPut(t, api.Root{Epoch: 1})
	}
}
