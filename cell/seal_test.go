package cell_test

import (
	"hash/adler32"
	"math"
	"math/rand"
	"strings"
	"testing"

	"foyer/api"
	"foyer/cell"
)

const (
	size  = 256
	most  = 240
	sumAt = 252
)

// lengths are those at the edges of what a body may have, and ordinary ones.
var lengths = []int{0, 1, 2, 3, 100, 127, 128, 238, 239, 240}

// summed puts the sum of the first 252 bytes behind them, whatever they are.
func summed(b []byte) string {
	n := adler32.Checksum(b[:sumAt])
	return string(b[:sumAt]) + string([]byte{byte(n >> 24), byte(n >> 16), byte(n >> 8), byte(n)})
}

// laid is a sector as the chapter's words say it, of any kind and length that fit a byte, with any bytes behind them.
func laid(kind, long int, behind string) string {
	b := make([]byte, sumAt)
	b[0], b[1] = byte(kind), byte(long)
	copy(b[2:], behind)
	return summed(b)
}

// bodies are bodies of so many bytes: of noughts, of the greatest bytes, and of any.
func bodies(long int) []string {
	r := rand.New(rand.NewSource(int64(long)))
	b := make([]byte, long)
	r.Read(b)
	return []string{strings.Repeat("\x00", long), strings.Repeat("\xff", long), string(b)}
}

// seals asks for the sector that a kind and a body are sealed in.
func seals(t *testing.T, kind int, body string) string {
	t.Helper()
	s, e := cell.Seal(kind, body)
	if e != api.OK {
		t.Fatalf("Seal(%d, %d bytes): %d", kind, len(body), e)
	}
	if want := laid(kind, len(body), body); s != want {
		t.Fatalf("Seal(%d, %d bytes): % x, not % x", kind, len(body), s, want)
	}
	return s
}

// noSeal asks that nothing is sealed, and why.
func noSeal(t *testing.T, kind int, body string, want api.Errno) {
	t.Helper()
	if s, e := cell.Seal(kind, body); s != "" || e != want {
		t.Errorf("Seal(%d, %d bytes): %d bytes, %d; not %d", kind, len(body), len(s), e, want)
	}
}

// The chapter's examples of Seal.
func TestSealExamples(t *testing.T) {
	s, e := cell.Seal(2, "ab")
	// The low sum is 1 and 2, 2, 97, 98; the high one 3, 5, 102 and 249 times 200.
	if want := "\x02\x02ab" + strings.Repeat("\x00", 248) + "\xc2\xf6\x00\xc8"; s != want || e != api.OK {
		t.Errorf("% x, %d", s, e)
	}
	noSeal(t, 0, "", api.ErrKind)
	noSeal(t, 256, "", api.ErrKind)
	noSeal(t, 2, strings.Repeat("x", 241), api.ErrLong)
}

// P7.1: a sealed sector of nothing, and of the greatest body, part by part.
func TestSealParts(t *testing.T) {
	for _, kind := range []int{1, 2, 3, 127, 128, 254, 255} {
		for _, long := range lengths {
			for _, body := range bodies(long) {
				s := seals(t, kind, body)
				if len(s) != size || int(s[0]) != kind || int(s[1]) != long || s[2:2+long] != body {
					t.Fatalf("of %d, %d bytes: % x", kind, long, s)
				}
				if rest := s[2+long : sumAt]; rest != strings.Repeat("\x00", 250-long) {
					t.Fatalf("of %d, %d bytes: behind the body % x", kind, long, rest)
				}
			}
		}
	}
}

// P7.1: all kinds that there are.
func TestSealKinds(t *testing.T) {
	for kind := 1; kind <= 255; kind++ {
		seals(t, kind, "")
		seals(t, kind, "a body")
	}
}

// P7.1: kinds that there are not are told first, whatever the body is.
func TestSealNoKind(t *testing.T) {
	for _, kind := range []int{math.MinInt, -65536 + 2, -256, -255, -2, -1, 0, 256, 257, 258, 511, 512, 65537, math.MaxInt32, math.MaxInt} {
		for _, long := range []int{0, 1, 240, 241, 255, 256, 5000} {
			noSeal(t, kind, strings.Repeat("b", long), api.ErrKind)
		}
	}
}

// P7.1: bodies of more than 240 bytes are refused, also those whose length fits a byte.
func TestSealLong(t *testing.T) {
	for _, kind := range []int{1, 2, 255} {
		for _, long := range []int{241, 242, 250, 251, 255, 256, 257, 256 + 2, 512, 65536, 1 << 20} {
			noSeal(t, kind, strings.Repeat("b", long), api.ErrLong)
			noSeal(t, kind, strings.Repeat("\x00", long), api.ErrLong)
		}
	}
}
