package root_test

import (
	"math"
	"strings"
	"testing"

	"foyer/api"
	"foyer/root"
)

// picks asks for the root that counts, and which of both it is.
func picks(t *testing.T, a, b string, want api.Root, which int) {
	t.Helper()
	if r, w, e := root.Pick(a, b); r != want || w != which || e != api.OK {
		t.Fatalf("Pick(% x, % x): %v, %d, %d; not %v, %d", a, b, r, w, e, want, which)
	}
}

// noPick asks that none counts, and why.
func noPick(t *testing.T, a, b string, want api.Errno) {
	t.Helper()
	if r, w, e := root.Pick(a, b); r != (api.Root{}) || w != -1 || e != want {
		t.Fatalf("Pick(% x, % x): %v, %d, %d; not -1, %d", a, b, r, w, e, want)
	}
}

// broken are texts that are no root's sectors, and not blank.
func broken() []string {
	return []string{
		"",
		"\x00",
		blank[:255],
		blank + "\x00",
		strings.Repeat("\xff", size),
		laid(0, 64, [8]int{}, 0),
		laid(1, 64, [8]int{}, 2),
		laid(9, 63, [8]int{}, 9),
		laid(9, 64, [8]int{1}, 9),
		laid(9, 64, [8]int{2, 2}, 9),
		with(laid(9, 64, [8]int{2}, 9), 100, 1),
		laid(9, 64, [8]int{2}, 9) + "\x00",
		with(blank, 255, 1),
	}
}

// The chapter's examples of Pick.
func TestPickExamples(t *testing.T) {
	noPick(t, blank, blank, api.ErrBlank)
	four, five := api.Root{Epoch: 4, Sectors: 64}, api.Root{Epoch: 5, Sectors: 64}
	picks(t, puts(t, four), puts(t, five), five, 1)
}

// P8.2: of two roots the one with the greater Epoch, in either one; of the same Epoch that of a.
func TestPickTwo(t *testing.T) {
	for i, low := range epochs {
		for _, high := range epochs[i:] {
			a := api.Root{Epoch: low, Sectors: 64, Chunks: [8]int{2, 3}}
			b := api.Root{Epoch: high, Sectors: 1024, Chunks: [8]int{0, 1023}}
			if low == high {
				picks(t, puts(t, a), puts(t, b), a, 0)
				picks(t, puts(t, b), puts(t, a), b, 0)
				picks(t, puts(t, a), puts(t, a), a, 0)
				continue
			}
			picks(t, puts(t, a), puts(t, b), b, 1)
			picks(t, puts(t, b), puts(t, a), b, 0)
		}
	}
}

// P8.2: a root's sector beside a blank one, and beside one that is neither, either way round.
func TestPickOne(t *testing.T) {
	for _, epoch := range epochs {
		r := api.Root{Epoch: epoch, Sectors: 64, Chunks: [8]int{5, 4}}
		s := puts(t, r)
		for _, none := range append(broken(), blank) {
			picks(t, s, none, r, 0)
			picks(t, none, s, r, 1)
		}
	}
}

// P8.2: neither is a root's: one blank, either way round; none blank.
func TestPickNone(t *testing.T) {
	noPick(t, blank, blank, api.ErrBlank)
	for _, a := range broken() {
		noPick(t, a, blank, api.ErrBlank)
		noPick(t, blank, a, api.ErrBlank)
		for _, b := range broken() {
			noPick(t, a, b, api.ErrBroken)
		}
	}
}

// The chapter's example of Next.
func TestNextExample(t *testing.T) {
	r, which := root.Next(api.Root{Epoch: 5, Sectors: 64}, 1)
	if r != (api.Root{Epoch: 6, Sectors: 64}) || which != 0 {
		t.Errorf("%v, %d", r, which)
	}
}

// P8.3: an Epoch that is 1 more, all else as it was, and the sector by which.
func TestNext(t *testing.T) {
	for which, want := range map[int]int{0: 1, 1: 0, -1: 0, 2: 1, 3: 1, -2: 1, math.MinInt: 1, math.MaxInt: 1} {
		for _, r := range append(roots(), api.Root{}, api.Root{Epoch: 7, Sectors: -3, Chunks: [8]int{1, 1, -1, math.MaxInt}}) {
			next := r
			next.Epoch++
			if got, w := root.Next(r, which); got != next || w != want {
				t.Fatalf("Next(%v, %d): %v, %d; not %v, %d", r, which, got, w, next, want)
			}
		}
	}
}

// P8.3, R7: behind the greatest Epoch comes what fits of it: 0.
func TestNextGreatest(t *testing.T) {
	r, which := root.Next(api.Root{Epoch: math.MaxUint64, Sectors: 64, Chunks: [8]int{2}}, 0)
	if r != (api.Root{Sectors: 64, Chunks: [8]int{2}}) || which != 1 {
		t.Errorf("%v, %d", r, which)
	}
}
