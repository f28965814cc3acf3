package root_test

import (
	"testing"

	"foyer/api"
	"foyer/root"
)

// partly are roots of unlike Epochs whose bytes are alike, and unlike, at many places.
func partly() []api.Root {
	return []api.Root{
		{Epoch: 1, Sectors: 64},
		{Epoch: 2, Sectors: 64, Chunks: [8]int{2}},
		{Epoch: 3, Sectors: 64, Chunks: [8]int{2}},
		{Epoch: 255, Sectors: 1024, Chunks: [8]int{1023, 2, 3}},
		{Epoch: 256, Sectors: 1024, Chunks: [8]int{1023, 2, 4}},
		{Epoch: 257, Sectors: 1024, Chunks: [8]int{0, 2, 4, 0, 0, 0, 0, 9}},
		{Epoch: 1 << 32, Sectors: 256, Chunks: [8]int{2, 3, 4, 5, 6, 7, 8, 9}},
		{Epoch: 1<<32 + 1, Sectors: 256, Chunks: [8]int{9, 8, 7, 6, 5, 4, 3, 2}},
		{Epoch: 0x0102030405060708, Sectors: 65},
		{Epoch: 0x0102030405060709, Sectors: 65, Chunks: [8]int{64, 63}},
		{Epoch: 0x0101010101010101, Sectors: 65, Chunks: [8]int{64, 63}},
		{Epoch: 0x0101010101010100, Sectors: 66},
		{Epoch: 1 << 56, Sectors: 64},
		{Epoch: highest, Sectors: 64},
	}
}

// P8.4: the first bytes of one root's sector, and the others of another one's: no root's, or that of one of both.
func TestPartOfTwo(t *testing.T) {
	for i, a := range partly() {
		for j, b := range partly() {
			if i == j {
				continue
			}
			s, was := puts(t, a), puts(t, b)
			for k := range size + 1 {
				r, e := root.Get(s[:k] + was[k:])
				if e == api.OK && r != a && r != b {
					t.Fatalf("%d bytes of %v over %v: %v", k, a, b, r)
				}
				if e != api.OK && (e != api.ErrForm || r != api.Root{}) {
					t.Fatalf("%d bytes of %v over %v: %v, %d", k, a, b, r, e)
				}
			}
			gets(t, s, a)
			gets(t, was, b)
		}
	}
}

// P8.4: noughts and a root's, either way round: no root's, or that root's.
func TestPartOfBlank(t *testing.T) {
	for _, a := range partly() {
		s := puts(t, a)
		for k := range size + 1 {
			for _, mixed := range []string{s[:k] + blank[k:], blank[:k] + s[k:]} {
				r, e := root.Get(mixed)
				if mixed == s {
					gets(t, mixed, a)
				} else if r != (api.Root{}) || e == api.OK {
					t.Fatalf("%d bytes of %v and noughts: %v, %d", k, a, r, e)
				}
			}
		}
	}
}

// P8.4: while a store's next root is written over the sector that does not count, the elder root is picked, or the next one.
func TestPartOfNext(t *testing.T) {
	for _, epoch := range []uint64{1, 2, 254, 255, 256, 65535, 1<<32 - 1, 1<<56 - 1, highest - 1, highest} {
		counts := api.Root{Epoch: epoch, Sectors: 64, Chunks: [8]int{2, 0, 9}}
		for which := range 2 {
			two := [2]string{blank, blank}
			two[which] = puts(t, counts)
			written(t, two, counts, which)
			two[1-which] = laid(9, 64, [8]int{1}, 8)
			written(t, two, counts, which)
			if epoch > 1 {
				two[1-which] = puts(t, api.Root{Epoch: epoch - 1, Sectors: 64, Chunks: [8]int{3, 4}})
				written(t, two, counts, which)
			}
		}
	}
}

// written writes the next root of a store, in part, of each length, and asks what is picked.
func written(t *testing.T, two [2]string, counts api.Root, which int) {
	t.Helper()
	next, into := root.Next(counts, which)
	if into == which {
		t.Fatalf("the next root comes in the sector %d, which counts", which)
	}
	next.Chunks = [8]int{2, 5, 10}
	s := puts(t, next)
	for k := range size + 1 {
		now := two
		now[into] = s[:k] + now[into][k:]
		if now[into] == s {
			picks(t, now[0], now[1], next, into)
		} else {
			picks(t, now[0], now[1], counts, which)
		}
	}
}

// P8.4: commit by commit from a blank store on, each in part and then whole.
func TestPartOfMany(t *testing.T) {
	two := [2]string{blank, blank}
	counts, which := api.Root{Sectors: 64}, -1
	for n := range 600 {
		next, into := root.Next(counts, which)
		next.Chunks[n%8] = 2 + n%62
		for i := range next.Chunks {
			if i != n%8 && next.Chunks[i] == next.Chunks[n%8] {
				next.Chunks[i] = 0
			}
		}
		s := puts(t, next)
		for k := range size {
			now := two
			now[into] = s[:k] + now[into][k:]
			r, w, e := root.Pick(now[0], now[1])
			if which < 0 && (w != -1 || e != api.ErrBlank || r != api.Root{}) && now[into] != s {
				t.Fatalf("the first root, %d bytes of it: %v, %d, %d", k, r, w, e)
			}
			if which >= 0 && (r != counts || w != which || e != api.OK) && (r != next || w != into || e != api.OK) {
				t.Fatalf("%d bytes of %v behind %v: %v, %d, %d", k, next, counts, r, w, e)
			}
		}
		two[into] = s
		picks(t, two[0], two[1], next, into)
		counts, which = next, into
	}
}
