package sum_test

import (
	"hash/adler32"
	"math"
	"math/big"
	"strings"
	"testing"

	"foyer/sum"
)

const modulus = 65521

// row is above the most bytes that the program takes at a time.
const row = 8192

// plainOf is the sum as the words of the chapter say it, over all beginnings, with no remainder taken ahead of the end.
func plainOf(s string) uint32 {
	low, high := uint64(1), uint64(0)
	for i := range len(s) {
		low += uint64(s[i])
		high += low
	}
	return uint32(high%modulus*65536 + low%modulus)
}

// plainMore raises the halves byte by byte, with a remainder at each.
func plainMore(n uint32, s string) uint32 {
	low, high := n%65536%modulus, n/65536%modulus
	for i := range len(s) {
		low = (low + uint32(s[i])) % modulus
		high = (high + low) % modulus
	}
	return high*65536 + low
}

// plainJoined works with numbers that have no end.
func plainJoined(a, b uint32, n int) uint32 {
	if n < 0 {
		n = 0
	}
	half := func(n uint32) *big.Int { return big.NewInt(int64(n % modulus)) }
	m := big.NewInt(modulus)
	above := new(big.Int).Sub(half(a%65536), big.NewInt(1))
	low := new(big.Int).Add(above, half(b%65536))
	high := new(big.Int).Mul(big.NewInt(int64(n)), above)
	high.Add(high, half(a/65536)).Add(high, half(b/65536))
	return uint32(high.Mod(high, m).Uint64()*65536 + low.Mod(low, m).Uint64())
}

// mixed are so many bytes in which no row is like another one.
func mixed(size int) string {
	b := make([]byte, size)
	x := uint32(size) + 1
	for i := range b {
		x = x*1664525 + 1013904223
		b[i] = byte(x >> 24)
	}
	return string(b)
}

// sizes are lengths at which a program may cut, those beside them, and longer ones.
func sizes() []int {
	l := []int{0, 1, 2, 3, 7, 100, 256, 257, 258, 1000}
	for _, n := range []int{1024, 2048, 4096, 5552, row, 16384, 65521, 65536, 3 * 5552, 3 * 65536} {
		l = append(l, n-1, n, n+1)
	}
	return append(l, 1<<20+5)
}

// texts are of all those lengths: bytes of many kinds, the greatest ones, the least ones.
func texts() []string {
	var l []string
	for _, n := range sizes() {
		l = append(l, mixed(n), strings.Repeat("\xff", n), strings.Repeat("\x00", n))
	}
	return l
}

// numbers have halves of which some are at M, above it, or the greatest, beside ordinary ones.
func numbers() []uint32 {
	halves := []uint32{0, 1, 2, 255, 4096, 32768, 65519, 65520, 65521, 65522, 65523, 65534, 65535}
	var l []uint32
	for _, high := range halves {
		for _, low := range halves {
			l = append(l, high*65536+low)
		}
	}
	return l
}

// counts are n of Joined: ordinary ones, below 0, about M, the greatest and the least.
func counts() []int {
	return []int{
		0, 1, 2, 3, 255, 5552, 65519, 65520, 65521, 65522, 65535, 65536, 2*modulus - 1, 2 * modulus, 2*modulus + 1,
		1 << 30, math.MaxInt32, math.MaxInt - 1, math.MaxInt, -1, -2, -65521, -65522, math.MinInt32, math.MinInt + 1, math.MinInt,
	}
}

// P3.1: the sums of the chapter's examples, and others that are known.
func TestOfKnown(t *testing.T) {
	for _, g := range []struct {
		name, s string
		want    uint32
	}{
		{"nothing", "", 0x00000001},
		{"a", "a", 0x00620062},
		{"ab", "ab", 0x012600c4},
		{"abc", "abc", 0x024d0127},
		{"Wikipedia", "Wikipedia", 0x11e60398},
		{"one nought", "\x00", 0x00010001},
		{"two noughts", "\x00\x00", 0x00020001},
		{"one 255", "\xff", 0x01000100},
		{"runes as bytes", "\u00e9", 0x0231016d},
		{"no text of runes", "\xff\xfe", 0x02fe01fe},
		{"256 of 255, the lower one below M", strings.Repeat("\xff", 256), 0x0800ff01},
		{"257 of 255, the lower one above M", strings.Repeat("\xff", 257), 0x080f000f},
		{"65520 noughts, the upper one M - 1", strings.Repeat("\x00", 65520), 0xfff00001},
		{"65521 noughts, the upper one M", strings.Repeat("\x00", 65521), 0x00000001},
		{"65522 noughts, the upper one above M", strings.Repeat("\x00", 65522), 0x00010001},
		{"5552 of 255, and 2", strings.Repeat("\xff", 5552) + "2", 0x8d5c9bbe},
		{"100000 of a", strings.Repeat("a", 100000), 0x79660b4d},
		{"100000 noughts", strings.Repeat("\x00", 100000), 0x86af0001},
	} {
		if got := sum.Of(g.s); got != g.want {
			t.Errorf("%s: %08x, not %08x", g.name, got, g.want)
		}
	}
}

// P3.1: Of is what the words say, at all lengths, and what RFC 1950 says.
func TestOf(t *testing.T) {
	for n := range 700 {
		for _, s := range []string{mixed(n), strings.Repeat("\xff", n), strings.Repeat("\x00", n)} {
			if got := sum.Of(s); got != plainOf(s) {
				t.Errorf("%d bytes: %08x, not %08x", n, got, plainOf(s))
			}
		}
	}
	for _, s := range texts() {
		if got := sum.Of(s); got != plainOf(s) || got != adler32.Checksum([]byte(s)) {
			t.Errorf("%d bytes: %08x, not %08x", len(s), got, plainOf(s))
		}
	}
}

// P3.1: each byte by itself.
func TestOfByte(t *testing.T) {
	for b := range 256 {
		want := uint32(b+1)*65536 + uint32(b+1)
		if got := sum.Of(string([]byte{byte(b)})); got != want {
			t.Errorf("%d: %08x, not %08x", b, got, want)
		}
	}
}

// P3.1: so many bytes of 255 that a number of 32 bits would have passed its end over and over.
func TestOfGreatest(t *testing.T) {
	s := strings.Repeat("\xff", 1<<24+3)
	if got, want := sum.Of(s), adler32.Checksum([]byte(s)); got != want {
		t.Errorf("%08x, not %08x", got, want)
	}
}

// P3.1: a number's halves are taken by M, also where no byte comes.
func TestMoreKnown(t *testing.T) {
	for _, g := range []struct {
		name string
		n    uint32
		s    string
		want uint32
	}{
		{"example", sum.Of("ab"), "c", 0x024d0127},
		{"0, no bytes", 0, "", 0},
		{"M - 1, no bytes", 0xfff0fff0, "", 0xfff0fff0},
		{"lower M, no bytes", 0x0005fff1, "", 0x00050000},
		{"upper M, no bytes", 0xfff10005, "", 0x00000005},
		{"both M, no bytes", 0xfff1fff1, "", 0},
		{"above M, no bytes", 0xfff2fff3, "", 0x00010002},
		{"greatest, no bytes", 0xffffffff, "", 0x000e000e},
		{"0, a nought", 0, "\x00", 0},
		{"0, 1", 0, "\x01", 0x00010001},
		{"M - 1, a nought", 0xfff0fff0, "\x00", 0xffeffff0},
		{"M - 1, 1", 0xfff0fff0, "\x01", 0xfff00000},
		{"M - 1, 2", 0xfff0fff0, "\x02", 0x00000001},
		{"M, 1", 0xfff1fff1, "\x01", 0x00010001},
		{"greatest, 255", 0xffffffff, "\xff", 0x011b010d},
	} {
		if got := sum.More(g.n, g.s); got != g.want {
			t.Errorf("%s: %08x, not %08x", g.name, got, g.want)
		}
	}
}

// P3.1: More is what the words say, of numbers at all edges.
func TestMore(t *testing.T) {
	long := []string{"", "\x00", "\x01", "\xff", "abc", mixed(300), strings.Repeat("\xff", row+1), mixed(2*row + 3)}
	for _, n := range numbers() {
		for _, s := range long {
			if got, want := sum.More(n, s), plainMore(n, s); got != want {
				t.Errorf("%08x, %d bytes: %08x, not %08x", n, len(s), got, want)
			}
		}
	}
	for _, s := range texts() {
		for _, n := range []uint32{0, 0xfff0fff0, 0xfff1fff1, 0xffffffff} {
			if got, want := sum.More(n, s), plainMore(n, s); got != want {
				t.Errorf("%08x, %d bytes: %08x, not %08x", n, len(s), got, want)
			}
		}
	}
}

// P3.2: Joined at its edges: halves of 0, M and more, and n of all kinds.
func TestJoinedKnown(t *testing.T) {
	for _, g := range []struct {
		name string
		a, b uint32
		n    int
		want uint32
	}{
		{"example", sum.Of("ab"), sum.Of("c"), 1, 0x024d0127},
		{"two of nothing", 1, 1, 0, 1},
		{"two of nothing, any n", 1, 1, 12345, 1},
		{"0 and 0", 0, 0, 0, 0x0000fff0},
		{"0 and 0, once", 0, 0, 1, 0xfff0fff0},
		{"0 and 0, twice", 0, 0, 2, 0xffeffff0},
		{"0 and 1", 0, 1, 0, 0},
		{"1 and 0", 1, 0, 7, 0},
		{"lower M is 0", 0x0000fff1, 1, 1, 0xfff00000},
		{"second lower M is 0", 1, 0x0000fff1, 1, 0},
		{"upper ones pass M", 0xfff00001, 0x00020001, 0, 0x00010001},
		{"upper ones M", 0xfff10001, 0xfff10001, 0, 1},
		{"greatest ones", 0xffffffff, 0xffffffff, 0, 0x001c001b},
		{"greatest ones, once", 0xffffffff, 0xffffffff, 1, 0x0029001b},
		{"n of M", 2, 1, 65521, 0x00000002},
		{"n of M - 1", 2, 1, 65520, 0xfff00002},
		{"n of M + 1", 2, 1, 65522, 0x00010002},
		{"n below 0", 2, 1, -1, 0x00000002},
		{"n of -M - 1", 0x00050007, 0x00030009, -65522, 0x0008000f},
		{"least n", 0x00050007, 0x00030009, math.MinInt, 0x0008000f},
	} {
		if got := sum.Joined(g.a, g.b, g.n); got != g.want {
			t.Errorf("%s: %08x, not %08x", g.name, got, g.want)
		}
	}
}

// P3.2: Joined is what the words say, of all pairs of such numbers.
func TestJoined(t *testing.T) {
	for _, a := range numbers() {
		for _, b := range []uint32{0, 1, 0x00010000, 0x024d0127, 0xfff0fff0, 0xfff1fff1, 0xfff2fff3, 0xffffffff} {
			for _, n := range counts() {
				if got, want := sum.Joined(a, b, n), plainJoined(a, b, n); got != want {
					t.Errorf("%08x, %08x, %d: %08x, not %08x", a, b, n, got, want)
				}
				if got, want := sum.Joined(b, a, n), plainJoined(b, a, n); got != want {
					t.Errorf("%08x, %08x, %d: %08x, not %08x", b, a, n, got, want)
				}
			}
		}
	}
}

// P3.2: of n below 0 the answer is that of 0.
func TestJoinedBelowNought(t *testing.T) {
	for _, a := range numbers() {
		for _, n := range []int{-1, -2, -65521, math.MinInt} {
			if got, want := sum.Joined(a, 0x024d0127, n), sum.Joined(a, 0x024d0127, 0); got != want {
				t.Errorf("%08x, %d: %08x, not %08x", a, n, got, want)
			}
		}
	}
}

// checkCut holds the sum of a text against what its parts tell.
func checkCut(t *testing.T, s string, at int) {
	t.Helper()
	whole := sum.Of(s)
	first, second := s[:at], s[at:]
	if got := sum.More(sum.Of(first), second); got != whole {
		t.Errorf("%d bytes cut at %d: More %08x, not %08x", len(s), at, got, whole)
	}
	if got := sum.Joined(sum.Of(first), sum.Of(second), len(second)); got != whole {
		t.Errorf("%d bytes cut at %d: Joined %08x, not %08x", len(s), at, got, whole)
	}
}

// P3.3: a text cut anywhere has the sum that its parts tell.
func TestCut(t *testing.T) {
	for _, n := range []int{0, 1, 2, 5, 64, 700} {
		for _, s := range []string{mixed(n), strings.Repeat("\xff", n), strings.Repeat("\x00", n)} {
			for at := range n + 1 {
				checkCut(t, s, at)
			}
		}
	}
	const long = 3*65536 + 17
	for _, s := range []string{mixed(long), strings.Repeat("\xff", long), strings.Repeat("\x00", long)} {
		for _, n := range sizes() {
			if n <= long {
				checkCut(t, s, n)
				checkCut(t, s, long-n)
			}
		}
	}
}

// P3.3: a text of many parts has the sum that they tell, one behind the other.
func TestManyParts(t *testing.T) {
	s := mixed(20000)
	more, joined := sum.Of(""), sum.Of("")
	for at, size := 0, 0; at < len(s); at, size = at+size, size+1 {
		part := s[at:min(at+size, len(s))]
		more = sum.More(more, part)
		joined = sum.Joined(joined, sum.Of(part), len(part))
		if want := sum.Of(s[:at+len(part)]); more != want || joined != want {
			t.Fatalf("%d bytes: %08x, %08x, not %08x", at+len(part), more, joined, want)
		}
	}
}

// changed is s with another byte at that place.
func changed(s string, at int, b byte) string { return s[:at] + string([]byte{b}) + s[at+1:] }

// P3.3: where one byte is another one, the sum is another one.
func TestOneByteTells(t *testing.T) {
	for _, s := range []string{"a", "abc", "Wikipedia", "\x00\x00\x00", "\xff\xff\xff\xff", mixed(300)} {
		for at := range len(s) {
			for b := range 256 {
				if other := changed(s, at, byte(b)); other != s && sum.Of(other) == sum.Of(s) {
					t.Errorf("%d bytes, %d at %d: %08x, both", len(s), b, at, sum.Of(s))
				}
			}
		}
	}
	for _, s := range []string{mixed(70000), strings.Repeat("\xff", 70000), strings.Repeat("\x00", 70000)} {
		for _, n := range sizes() {
			if n < len(s) && sum.Of(changed(s, n, ^s[n])) == sum.Of(s) {
				t.Errorf("%d bytes, changed at %d: %08x, both", len(s), n, sum.Of(s))
			}
		}
	}
}

// exchanged is s with the byte at that place and the next one exchanged.
func exchanged(s string, at int) string { return s[:at] + s[at+1:at+2] + s[at:at+1] + s[at+2:] }

// P3.3: where two unequal neighbours are exchanged, the sum is another one.
func TestExchangeTells(t *testing.T) {
	for a := range 256 {
		for b := range a {
			for _, ends := range [][2]string{{"", ""}, {"x", "y"}, {strings.Repeat("\xff", 257), "z"}} {
				s := ends[0] + string([]byte{byte(a), byte(b)}) + ends[1]
				if other := exchanged(s, len(ends[0])); sum.Of(other) == sum.Of(s) {
					t.Errorf("%d and %d behind %d bytes: %08x, both", a, b, len(ends[0]), sum.Of(s))
				}
			}
		}
	}
	s := mixed(70000)
	for _, n := range sizes() {
		if n+1 < len(s) && s[n] != s[n+1] && sum.Of(exchanged(s, n)) == sum.Of(s) {
			t.Errorf("exchanged at %d: %08x, both", n, sum.Of(s))
		}
	}
}

// R5, R6: what is handed in is not changed, and nothing of a call is kept for the next one.
func TestLeaves(t *testing.T) {
	for _, s := range texts() {
		before := strings.Clone(s)
		first := sum.Of(s)
		sum.More(0xffffffff, s)
		sum.Joined(first, 0xffffffff, len(s))
		if s != before {
			t.Errorf("%d bytes: changed", len(s))
		}
		if got := sum.Of(s); got != first {
			t.Errorf("%d bytes: %08x, then %08x", len(s), first, got)
		}
	}
}
