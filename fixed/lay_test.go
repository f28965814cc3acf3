package fixed_test

import (
	"bytes"
	"math"
	"strings"
	"testing"

	"foyer/fixed"
)

// laying is one call that lays something, with what it must lay.
type laying struct {
	name string
	call func(b []byte) []byte
	want []byte
}

func u8(n uint8) func([]byte) []byte   { return func(b []byte) []byte { return fixed.P8(b, n) } }
func u16(n uint16) func([]byte) []byte { return func(b []byte) []byte { return fixed.P16(b, n) } }
func u32(n uint32) func([]byte) []byte { return func(b []byte) []byte { return fixed.P32(b, n) } }
func u64(n uint64) func([]byte) []byte { return func(b []byte) []byte { return fixed.P64(b, n) } }
func text(s string) func([]byte) []byte {
	return func(b []byte) []byte { return fixed.PText(b, s) }
}

// layings are ordinary calls and those at the edges of their widths.
func layings() []laying {
	long := strings.Repeat("x", 255)
	return []laying{
		{"P8 0", u8(0), []byte{0}},
		{"P8 7", u8(7), []byte{7}},
		{"P8 most", u8(math.MaxUint8), []byte{255}},
		{"P16 0", u16(0), []byte{0, 0}},
		{"P16 7", u16(7), []byte{0, 7}},
		{"P16 256", u16(256), []byte{1, 0}},
		{"P16 mixed", u16(0x0102), []byte{1, 2}},
		{"P16 most", u16(math.MaxUint16), []byte{255, 255}},
		{"P32 0", u32(0), []byte{0, 0, 0, 0}},
		{"P32 7", u32(7), []byte{0, 0, 0, 7}},
		{"P32 mixed", u32(0x01020304), []byte{1, 2, 3, 4}},
		{"P32 high", u32(1 << 31), []byte{128, 0, 0, 0}},
		{"P32 most", u32(math.MaxUint32), []byte{255, 255, 255, 255}},
		{"P64 0", u64(0), []byte{0, 0, 0, 0, 0, 0, 0, 0}},
		{"P64 2^40", u64(1 << 40), []byte{0, 0, 1, 0, 0, 0, 0, 0}},
		{"P64 mixed", u64(0x0102030405060708), []byte{1, 2, 3, 4, 5, 6, 7, 8}},
		{"P64 high", u64(1 << 63), []byte{128, 0, 0, 0, 0, 0, 0, 0}},
		{"P64 most", u64(math.MaxUint64), bytes.Repeat([]byte{255}, 8)},
		{"PText nothing", text(""), []byte{0}},
		{"PText ab", text("ab"), []byte{2, 'a', 'b'}},
		{"PText any bytes", text("\x00\xff\x80"), []byte{3, 0, 255, 128}},
		{"PText 254", text(long[:254]), append([]byte{254}, long[:254]...)},
		{"PText 255", text(long), append([]byte{255}, long...)},
		{"PText 256", text(long + "x"), nil},
		{"PText 600", text(long + long + long[:90]), nil},
	}
}

// P1.1: b, and behind it what is laid, whatever b is.
func TestLayBehind(t *testing.T) {
	for _, l := range layings() {
		for _, b := range [][]byte{nil, {}, {9}, []byte("ahead of it")} {
			want := append(bytes.Clone(b), l.want...)
			if got := l.call(b); !bytes.Equal(got, want) {
				t.Errorf("%s behind %x: %x, not %x", l.name, b, got, want)
			}
		}
	}
}

// P1.1: b's own room is not written into, and b stays as it was.
func TestLayLeavesRoom(t *testing.T) {
	for _, l := range layings() {
		room := bytes.Repeat([]byte{0xaa}, 300)
		l.call(room[:3])
		l.call(room[:0])
		if !bytes.Equal(room, bytes.Repeat([]byte{0xaa}, 300)) {
			t.Errorf("%s: room was written into", l.name)
		}
	}
}

// P1.1: the answer is new: what is done to b, or to another answer, is not seen in it.
func TestLayAnswersNew(t *testing.T) {
	for _, l := range layings() {
		b := append(make([]byte, 0, 400), "before"...)
		want := append([]byte("before"), l.want...)
		one, two := l.call(b), l.call(b)
		clear(b[:cap(b)])
		clear(two[:cap(two)])
		if !bytes.Equal(one, want) {
			t.Errorf("%s: shares its memory: %x", l.name, one)
		}
		three := l.call(want[:6])
		clear(three)
		if string(want[:6]) != "before" {
			t.Errorf("%s: b shares memory with the answer", l.name)
		}
	}
}

// P1.1: two things laid behind one answer do not meet.
func TestLayTwiceBehindOne(t *testing.T) {
	for _, l := range layings() {
		b := l.call([]byte{1})
		want := bytes.Clone(b)
		x, y := fixed.PText(fixed.P32(b, 5), "xx"), fixed.PText(fixed.P32(b, 6), "yy")
		if !bytes.Equal(x, append(bytes.Clone(want), 0, 0, 0, 5, 2, 'x', 'x')) {
			t.Errorf("%s: first one: %x", l.name, x)
		}
		if !bytes.Equal(y, append(bytes.Clone(want), 0, 0, 0, 6, 2, 'y', 'y')) {
			t.Errorf("%s: second one: %x", l.name, y)
		}
		if !bytes.Equal(b, want) {
			t.Errorf("%s: changed by what came behind it", l.name)
		}
	}
}

// rises holds the bytes of rising numbers against each other.
func rises[N uint8 | uint16 | uint32 | uint64](t *testing.T, name string, lay func([]byte, N) []byte, l []N) {
	t.Helper()
	for i, low := range l {
		for j, high := range l {
			a, b := lay(nil, low), lay(nil, high)
			if got, want := bytes.Compare(a, b), min(1, max(-1, i-j)); got != want {
				t.Errorf("%s: %d against %d: %d, not %d", name, low, high, got, want)
			}
		}
	}
}

// P1.4: of two numbers of one width the lesser one has the lesser bytes.
func TestLesserBytes(t *testing.T) {
	rises(t, "P8", fixed.P8, []uint8{0, 1, 127, 128, 254, 255})
	rises(t, "P16", fixed.P16, []uint16{0, 1, 255, 256, 257, 511, 512, 1<<15 - 1, 1 << 15, math.MaxUint16})
	rises(t, "P32", fixed.P32, []uint32{0, 1, 255, 256, 1<<16 - 1, 1 << 16, 1<<16 + 1, 1<<24 + 9, 1 << 31, math.MaxUint32})
	rises(t, "P64", fixed.P64, []uint64{0, 1, 255, 256, 1<<32 - 1, 1 << 32, 1 << 40, 1<<40 + 1, 1<<63 - 1, 1 << 63, math.MaxUint64})
}
