package fate_test

import (
	"bytes"
	"math"
	"math/rand"
	"slices"
	"testing"

	"foyer/api"
	"foyer/fate"
)

// came is a list of so many writes, of which these came.
func came(writes int, those ...int) []bool {
	l := make([]bool, writes)
	for _, i := range those {
		l[i] = true
	}
	return l
}

// every is a list of so many writes, of which all came.
func every(writes int) []bool {
	l := make([]bool, writes)
	for i := range l {
		l[i] = true
	}
	return l
}

// untorn is the fate by which just these came, and none is torn.
func untorn(came []bool) api.Fate { return api.Fate{Came: came, Torn: -1} }

// tornAt is the fate by which these came, and one of them up to there.
func tornAt(came []bool, torn, at int) api.Fate { return api.Fate{Came: came, Torn: torn, At: at} }

func sameFate(a, b api.Fate) bool {
	return slices.Equal(a.Came, b.Came) && a.Torn == b.Torn && a.At == b.At
}

// brief is a fate in which the writes that came are told by their numbers.
func brief(f api.Fate) (writes int, those []int, torn, at int) {
	for i, c := range f.Came {
		if c {
			those = append(those, i)
		}
	}
	return len(f.Came), those, f.Torn, f.At
}

// wantFate holds a fate against the one that is asked for.
func wantFate(t *testing.T, name string, got, want api.Fate) {
	t.Helper()
	if !sameFate(got, want) {
		n, those, torn, at := brief(got)
		wn, wthose, wtorn, wat := brief(want)
		t.Errorf("%s: of %d came %v, torn %d at %d; not of %d %v, torn %d at %d", name, n, those, torn, at, wn, wthose, wtorn, wat)
	}
}

// plainRead is the chapter's words, gone through one by one.
func plainRead(choices []byte, writes int) api.Fate {
	if writes < 1 {
		writes = 0
	}
	if writes > 4096 {
		writes = 4096
	}
	f := api.Fate{Torn: -1}
	var those []int
	for i := 0; i < writes; i++ {
		c := i/8 < len(choices) && int(choices[i/8])/int(math.Pow(2, float64(i%8)))%2 == 1
		f.Came = append(f.Came, c)
		if c {
			those = append(those, i)
		}
	}
	of := int(math.Ceil(float64(writes) / 8))
	if len(choices) < of+3 {
		return f
	}
	x, y, z := int(choices[of]), int(choices[of+1]), int(choices[of+2])
	if x < 128 && len(those) > 0 {
		f.Torn = those[x%len(those)]
		f.At = (256*y + z) % 257
	}
	return f
}

// reading is choices, so many writes, and the fate that they are.
type reading struct {
	name    string
	choices []byte
	writes  int
	want    api.Fate
}

func readings() []reading {
	return []reading{
		{"example: no tail", []byte{0x05}, 3, untorn(came(3, 0, 2))},
		{"example: torn", []byte{0x05, 1, 0, 0x80}, 3, tornAt(came(3, 0, 2), 2, 128)},
		{"example: 128 ahead", []byte{0x05, 0x80, 0, 0}, 3, untorn(came(3, 0, 2))},
		{"example: none", nil, 2, untorn(came(2))},

		{"no writes", nil, 0, untorn(nil)},
		{"no writes, one byte", []byte{0xff}, 0, untorn(nil)},
		{"no writes, a tail", []byte{0, 0, 9}, 0, untorn(nil)},
		{"no writes, a long tail", []byte{0xff, 0xff, 0xff, 0xff}, 0, untorn(nil)},
		{"writes below 1", []byte{0xff, 0, 0, 9}, -1, untorn(nil)},
		{"the least writes", []byte{0xff, 0, 0, 9}, math.MinInt, untorn(nil)},

		{"one write, did not come", []byte{0xfe}, 1, untorn(came(1))},
		{"one write, came", []byte{0x01}, 1, untorn(came(1, 0))},
		{"one write, bits of no write", []byte{0xff}, 1, untorn(came(1, 0))},
		{"one write, torn", []byte{0x01, 0, 0, 7}, 1, tornAt(came(1, 0), 0, 7)},
		{"one write, no byte", []byte{}, 1, untorn(came(1))},
		{"seven writes", []byte{0x41}, 7, untorn(came(7, 0, 6))},
		{"seven writes, the eighth bit", []byte{0x80}, 7, untorn(came(7))},
		{"seven writes, all bits, torn", []byte{0xff, 6, 0, 1}, 7, tornAt(every(7), 6, 1)},
		{"eight writes", []byte{0x81}, 8, untorn(came(8, 0, 7))},
		{"eight writes, torn", []byte{0xff, 7, 0, 1}, 8, tornAt(every(8), 7, 1)},
		{"eight writes, the next byte is the tail's", []byte{0x80, 0x01}, 8, untorn(came(8, 7))},
		{"nine writes", []byte{0x80, 0x01}, 9, untorn(came(9, 7, 8))},
		{"nine writes, a byte too few", []byte{0xff}, 9, untorn(came(9, 0, 1, 2, 3, 4, 5, 6, 7))},
		{"nine writes, bits of no write", []byte{0x00, 0xfe, 0, 0, 9}, 9, untorn(came(9))},
		{"nine writes, bits of no write do not count ahead", []byte{0x04, 0xff, 3, 0, 9}, 9, tornAt(came(9, 2, 8), 8, 9)},
		{"nine writes, a tail with no byte for the ninth", []byte{0xff, 0, 0, 9}, 9, untorn(came(9, 0, 1, 2, 3, 4, 5, 6, 7))},

		{"one byte behind", []byte{0x05, 0}, 3, untorn(came(3, 0, 2))},
		{"two bytes behind", []byte{0x05, 0, 9}, 3, untorn(came(3, 0, 2))},
		{"three bytes behind", []byte{0x05, 0, 0, 9}, 3, tornAt(came(3, 0, 2), 0, 9)},
		{"four bytes behind", []byte{0x05, 0, 0, 9, 1}, 3, tornAt(came(3, 0, 2), 0, 9)},
		{"ten bytes behind", []byte{0x05, 1, 0, 9, 1, 2, 3, 4, 5, 6, 7}, 3, tornAt(came(3, 0, 2), 2, 9)},

		{"x is 127 of one", []byte{0x04, 127, 0, 0}, 3, tornAt(came(3, 2), 2, 0)},
		{"x is 127 of two", []byte{0x05, 127, 0, 0}, 3, tornAt(came(3, 0, 2), 2, 0)},
		{"x is 127 of three", []byte{0x07, 127, 0, 0}, 3, tornAt(came(3, 0, 1, 2), 1, 0)},
		{"x is 128", []byte{0x07, 128, 0, 9}, 3, untorn(came(3, 0, 1, 2))},
		{"x is 129", []byte{0x07, 129, 0, 9}, 3, untorn(came(3, 0, 1, 2))},
		{"x is 255", []byte{0x07, 255, 0, 9}, 3, untorn(came(3, 0, 1, 2))},
		{"x where none came", []byte{0x00, 0, 0, 9}, 3, untorn(came(3))},
		{"x is 127 where none came", []byte{0x00, 127, 1, 9}, 3, untorn(came(3))},
		{"x is how many came", []byte{0x06, 2, 0, 9}, 3, tornAt(came(3, 1, 2), 1, 9)},
		{"x is one more than came", []byte{0x06, 3, 0, 9}, 3, tornAt(came(3, 1, 2), 2, 9)},
		{"x is twice how many came", []byte{0x06, 4, 0, 9}, 3, tornAt(came(3, 1, 2), 1, 9)},
		{"x is one less than came", []byte{0x0b, 2, 0, 9}, 4, tornAt(came(4, 0, 1, 3), 3, 9)},

		{"At 0", []byte{0x01, 0, 0, 0}, 1, tornAt(came(1, 0), 0, 0)},
		{"At 255", []byte{0x01, 0, 0, 255}, 1, tornAt(came(1, 0), 0, 255)},
		{"At 256", []byte{0x01, 0, 1, 0}, 1, tornAt(came(1, 0), 0, 256)},
		{"257 is At 0", []byte{0x01, 0, 1, 1}, 1, tornAt(came(1, 0), 0, 0)},
		{"258 is At 1", []byte{0x01, 0, 1, 2}, 1, tornAt(came(1, 0), 0, 1)},
		{"512 is At 255", []byte{0x01, 0, 2, 0}, 1, tornAt(came(1, 0), 0, 255)},
		{"513 is At 256", []byte{0x01, 0, 2, 1}, 1, tornAt(came(1, 0), 0, 256)},
		{"514 is At 0", []byte{0x01, 0, 2, 2}, 1, tornAt(came(1, 0), 0, 0)},
		{"65535 is At 0", []byte{0x01, 0, 255, 255}, 1, tornAt(came(1, 0), 0, 0)},
		{"65534 is At 256", []byte{0x01, 0, 255, 254}, 1, tornAt(came(1, 0), 0, 256)},
		{"65280 is At 2", []byte{0x01, 0, 255, 0}, 1, tornAt(came(1, 0), 0, 2)},
	}
}

// P4.1: choices at all edges.
func TestRead(t *testing.T) {
	for _, g := range readings() {
		wantFate(t, g.name, fate.Read(g.choices, g.writes), g.want)
	}
}

// P4.1: each bit of a byte is of the write of its worth, and of no other one.
func TestReadBits(t *testing.T) {
	for i := range 24 {
		choices := make([]byte, 3)
		choices[i/8] = 1 << (i % 8)
		wantFate(t, "one bit", fate.Read(choices, 24), untorn(came(24, i)))
	}
	for b := range 256 {
		for writes := range 10 {
			choices := []byte{byte(b), 1, 0, 77}
			wantFate(t, "one byte", fate.Read(choices, writes), plainRead(choices, writes))
		}
	}
}

// P4.1: every x, of as many writes that came as there may be.
func TestReadTornOf(t *testing.T) {
	for _, n := range []int{1, 2, 3, 126, 127, 128, 129, 200} {
		of := (n + 7) / 8
		for x := range 256 {
			choices := append(bytes.Repeat([]byte{0xff}, of), byte(x), 0, 33)
			want := untorn(every(n))
			if x < 128 {
				want = tornAt(every(n), x%n, 33)
			}
			wantFate(t, "of all", fate.Read(choices, n), want)
		}
	}
}

// P4.1: every second and third byte.
func TestReadAt(t *testing.T) {
	for n := range 65536 {
		f := fate.Read([]byte{0x02, 0, byte(n / 256), byte(n % 256)}, 2)
		if f.Torn != 1 || f.At != n%257 {
			t.Fatalf("%d: torn %d at %d", n, f.Torn, f.At)
		}
	}
}

// P4.1: of more writes than 4096 the fate is of 4096, and the tail stands behind the bytes of these.
func TestReadMany(t *testing.T) {
	full := bytes.Repeat([]byte{0xff}, 512)
	for _, writes := range []int{4096, 4097, 4104, 5000, 1 << 31, math.MaxInt} {
		wantFate(t, "no choices", fate.Read(nil, writes), untorn(make([]bool, 4096)))
		wantFate(t, "whole", fate.Read(full, writes), untorn(every(4096)))
		wantFate(t, "a byte too few", fate.Read(full[:511], writes), untorn(append(every(4088), make([]bool, 8)...)))
		wantFate(t, "two behind", fate.Read(append(slices.Clone(full), 5, 0), writes), untorn(every(4096)))
		wantFate(t, "three behind", fate.Read(append(slices.Clone(full), 5, 0, 8), writes), tornAt(every(4096), 5, 8))
		wantFate(t, "many behind", fate.Read(append(slices.Clone(full), full...), writes), untorn(every(4096)))
		last := append(make([]byte, 511), 0x80, 127, 1, 0)
		wantFate(t, "the last one", fate.Read(last, writes), tornAt(came(4096, 4095), 4095, 256))
	}
	wantFate(t, "4095", fate.Read(append(slices.Clone(full), 5, 0, 8), 4095), tornAt(every(4095), 5, 8))
}

// P4.1: choices of all sorts and lengths, by the chapter's words.
func TestReadAny(t *testing.T) {
	r := rand.New(rand.NewSource(4))
	for range 20000 {
		choices := make([]byte, r.Intn(12))
		for i := range choices {
			choices[i] = byte(r.Intn(256)) >> r.Intn(8)
		}
		writes := r.Intn(80) - 2
		wantFate(t, "any", fate.Read(choices, writes), plainRead(choices, writes))
	}
}

// P4.1: Whole is of as many writes as Read, and all came.
func TestWhole(t *testing.T) {
	for _, g := range []struct{ writes, want int }{
		{math.MinInt, 0}, {-4096, 0}, {-1, 0}, {0, 0}, {1, 1}, {2, 2}, {7, 7}, {8, 8}, {9, 9}, {100, 100},
		{4095, 4095}, {4096, 4096}, {4097, 4096}, {1 << 20, 4096}, {math.MaxInt32, 4096}, {math.MaxInt, 4096},
	} {
		wantFate(t, "Whole", fate.Whole(g.writes), untorn(every(g.want)))
		if n := len(fate.Read(nil, g.writes).Came); n != g.want {
			t.Errorf("Read of %d writes: %d", g.writes, n)
		}
	}
}

// R5, R6: choices stay as they are, and the fates that are answered share nothing.
func TestReadLeaves(t *testing.T) {
	room := []byte{0x05, 1, 0, 9, 0xaa, 0xaa}
	choices := room[:4]
	first, second := fate.Read(choices, 3), fate.Read(choices, 3)
	if !bytes.Equal(room, []byte{0x05, 1, 0, 9, 0xaa, 0xaa}) {
		t.Errorf("choices changed: %x", room)
	}
	wantFate(t, "read again", second, first)
	clear(first.Came)
	clear(choices)
	wantFate(t, "behind a change", second, tornAt(came(3, 0, 2), 2, 9))
	one, two := fate.Whole(3), fate.Whole(3)
	clear(one.Came)
	wantFate(t, "whole, behind a change", two, untorn(every(3)))
}
