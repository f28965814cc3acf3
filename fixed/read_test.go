package fixed_test

import (
	"errors"
	"math"
	"strings"
	"testing"

	"foyer/api"
	"foyer/fixed"
)

// taking is one call that takes something; what it answers comes as a number, or a text.
type taking struct {
	name string
	call func(r *fixed.Reader) (uint64, string, error)
}

func wide[N uint8 | uint16 | uint32 | uint64](call func(*fixed.Reader) (N, error)) func(*fixed.Reader) (uint64, string, error) {
	return func(r *fixed.Reader) (uint64, string, error) {
		n, err := call(r)
		return uint64(n), "", err
	}
}

func upTo(most int) func(*fixed.Reader) (uint64, string, error) {
	return func(r *fixed.Reader) (uint64, string, error) {
		s, err := r.Text(most)
		return 0, s, err
	}
}

func takings() []taking {
	return []taking{
		{"U8", wide((*fixed.Reader).U8)},
		{"U16", wide((*fixed.Reader).U16)},
		{"U32", wide((*fixed.Reader).U32)},
		{"U64", wide((*fixed.Reader).U64)},
		{"Text", upTo(math.MaxInt)},
	}
}

// isFault asks for a *api.Fault itself, by its number and its place.
func isFault(t *testing.T, name string, err error, code api.Errno, at int) {
	t.Helper()
	f, ok := err.(*api.Fault)
	if !ok || f == nil || f.Code != code || f.At != at || !errors.Is(err, code) {
		t.Errorf("%s: %#v, not the fault %d at %d", name, err, code, at)
	}
}

// stands asks where a reader of so many bytes is.
func stands(t *testing.T, name string, r *fixed.Reader, place, left int) {
	t.Helper()
	if r.Place() != place || r.Left() != left {
		t.Errorf("%s: place %d, left %d; not %d, %d", name, r.Place(), r.Left(), place, left)
	}
	if left > 0 {
		isFault(t, name+": End", r.End(), api.ErrLong, place)
	} else if err := r.End(); err != nil {
		t.Errorf("%s: End: %v", name, err)
	}
}

// fails asks for a fault at the reader's place, by which nothing is taken.
func fails(t *testing.T, g taking, r *fixed.Reader, code api.Errno) {
	t.Helper()
	place, left := r.Place(), r.Left()
	for range 2 {
		n, s, err := g.call(r)
		isFault(t, g.name, err, code, place)
		if n != 0 || s != "" {
			t.Errorf("%s: %d and %q beside a fault", g.name, n, s)
		}
		stands(t, g.name, r, place, left)
	}
}

// P1.2, P1.3: a new reader is at its beginning.
func TestNew(t *testing.T) {
	for _, s := range []string{"", "a", "abc", strings.Repeat("z", 1000)} {
		r := fixed.New(s)
		if r == nil {
			t.Fatalf("no reader of %q", s)
		}
		stands(t, "new", r, 0, len(s))
	}
	one, two := fixed.New("ab"), fixed.New("ab")
	one.U8()
	stands(t, "another reader's bytes were taken", two, 0, 2)
}

// P1.2: numbers are read by their highest digit first, and taken.
func TestNumbers(t *testing.T) {
	bytes := "\x01\x02\x03\x04\x05\x06\x07\x08\x09"
	for i, want := range []uint64{0x01, 0x0102, 0x01020304, 0x0102030405060708} {
		g, width := takings()[i], 1<<i
		r := fixed.New(bytes)
		n, _, err := g.call(r)
		if n != want || err != nil {
			t.Errorf("%s: %x, %v", g.name, n, err)
		}
		stands(t, g.name, r, width, 9-width)
		r = fixed.New(strings.Repeat("\xff", width))
		n, _, err = g.call(r)
		if n != math.MaxUint64>>(64-8*width) || err != nil {
			t.Errorf("%s of the most: %x, %v", g.name, n, err)
		}
		stands(t, g.name, r, width, 0)
	}
}

// P1.2: fewer bytes than the width, at any place: ErrShort there, and nothing is taken.
func TestNumbersCut(t *testing.T) {
	for i := range 4 {
		g, width := takings()[i], 1<<i
		for skip := range 3 {
			for left := range width {
				r := fixed.New(strings.Repeat("q", skip+left))
				for range skip {
					r.U8()
				}
				fails(t, g, r, api.ErrShort)
			}
		}
	}
}

// P1.2: what a fault left can still be taken by what needs less.
func TestTakenBehindFault(t *testing.T) {
	r := fixed.New("\x00\x00\x01\x02")
	if _, err := r.U64(); err == nil {
		t.Error("U64 of four bytes")
	}
	if n, err := r.U32(); n != 0x0102 || err != nil {
		t.Error(n, err)
	}
	stands(t, "U32", r, 4, 0)
	for _, g := range takings() {
		fails(t, g, r, api.ErrShort)
	}
}

// P1.2: texts of 0, 1, 254 and 255 bytes, at their own length and above it.
func TestTexts(t *testing.T) {
	for _, size := range []int{0, 1, 2, 254, 255} {
		want := strings.Repeat("\xfe", size)
		for _, most := range []int{size, size + 1, 255, 256, math.MaxInt} {
			r := fixed.New(string([]byte{byte(size)}) + want + "rest")
			s, err := r.Text(most)
			if s != want || err != nil {
				t.Errorf("%d bytes, at most %d: %q, %v", size, most, s, err)
			}
			stands(t, "Text", r, 1+size, 4)
		}
	}
}

// P1.2: a text longer than most is ErrLong, at the text's place.
func TestTextLong(t *testing.T) {
	for _, size := range []int{1, 2, 254, 255} {
		for _, most := range []int{0, size / 2, size - 1} {
			r := fixed.New("!" + string([]byte{byte(size)}) + strings.Repeat("x", size))
			r.U8()
			fails(t, taking{"Text", upTo(most)}, r, api.ErrLong)
			if s, err := r.Text(size); len(s) != size || err != nil {
				t.Errorf("behind ErrLong: %q, %v", s, err)
			}
		}
	}
}

// P1.2: a text that is cut anywhere is ErrShort at the text's place, not at the cut.
func TestTextCut(t *testing.T) {
	whole := "\x05texts"
	for skip := range 3 {
		for end := range len(whole) {
			r := fixed.New(strings.Repeat("s", skip) + whole[:end])
			for range skip {
				r.U8()
			}
			fails(t, taking{"Text", upTo(5)}, r, api.ErrShort)
		}
	}
	r := fixed.New("\xff" + strings.Repeat("x", 254))
	fails(t, taking{"Text", upTo(255)}, r, api.ErrShort)
}

// P1.2: of several things that are wrong the first one named is told.
func TestTextOrder(t *testing.T) {
	for _, most := range []int{-1, -255, math.MinInt} {
		for _, s := range []string{"", "\x00", "\x03abc", "\x03ab"} {
			fails(t, taking{"Text", upTo(most)}, fixed.New(s), api.ErrArg)
		}
		r := fixed.New("\x07\x01a")
		r.U8()
		fails(t, taking{"Text", upTo(most)}, r, api.ErrArg)
	}
	fails(t, taking{"Text", upTo(0)}, fixed.New(""), api.ErrShort)
	fails(t, taking{"Text", upTo(2)}, fixed.New("\x03"), api.ErrLong)
	fails(t, taking{"Text", upTo(2)}, fixed.New("\x03ab"), api.ErrLong)
}

// P1.3: Place, Left and End, byte by byte up to the end and at it.
func TestPlaces(t *testing.T) {
	r := fixed.New("12345")
	for i := range 5 {
		stands(t, "on the way", r, i, 5-i)
		r.U8()
	}
	stands(t, "at the end", r, 5, 0)
	fails(t, taking{"U8", wide((*fixed.Reader).U8)}, r, api.ErrShort)
}

// P1.3: a reader that is none answers ErrNil At 0 to all that takes, and noughts.
func TestNoReader(t *testing.T) {
	var r *fixed.Reader
	for _, g := range append(takings(), taking{"Text below 0", upTo(-1)}) {
		n, s, err := g.call(r)
		isFault(t, g.name, err, api.ErrNil, 0)
		if n != 0 || s != "" {
			t.Errorf("%s: %d and %q of no reader", g.name, n, s)
		}
	}
	isFault(t, "End", r.End(), api.ErrNil, 0)
	if r.Place() != 0 || r.Left() != 0 {
		t.Error(r.Place(), r.Left())
	}
}

// R1: a reader that was not made by New reads nothing.
func TestZeroReader(t *testing.T) {
	r := new(fixed.Reader)
	stands(t, "zero", r, 0, 0)
	for _, g := range takings() {
		fails(t, g, r, api.ErrShort)
	}
}

// The chapter's examples of readers.
func TestExamples(t *testing.T) {
	r := fixed.New("\x01\x02a")
	if n, err := r.U8(); n != 1 || err != nil {
		t.Error(n, err)
	}
	_, err := r.Text(5)
	isFault(t, "Text(5)", err, api.ErrShort, 1)
	r = fixed.New("\x03abc")
	_, err = r.Text(2)
	isFault(t, "Text(2)", err, api.ErrLong, 0)
	if n, err := r.U16(); n != 865 || err != nil || r.Left() != 2 {
		t.Error(n, err, r.Left())
	}
}

// P1.4: what was laid is read back, one thing behind the other, and cut anywhere it faults within the thing that is cut.
func TestReadBack(t *testing.T) {
	long := strings.Repeat("\x00\xff", 127) + "l"
	b := fixed.P8(nil, 200)
	b = fixed.PText(b, "")
	b = fixed.P64(b, 1<<63+5)
	b = fixed.PText(b, long)
	b = fixed.P16(b, 65535)
	b = fixed.PText(b, long+"!")
	b = fixed.P32(b, 70000)
	b = fixed.PText(b, "end")
	whole, sizes := string(b), []int{1, 1, 8, 256, 2, 4, 4}
	if len(whole) != 276 {
		t.Fatalf("%d bytes", len(whole))
	}
	for end := range len(whole) + 1 {
		readSome(t, fixed.New(whole[:end]), end, sizes, long)
	}
}

// readSome reads the things of TestReadBack, of which the first end bytes are there.
func readSome(t *testing.T, r *fixed.Reader, end int, sizes []int, long string) {
	t.Helper()
	all := takings()
	order := []taking{all[0], all[4], all[3], all[4], all[1], all[2], all[4]}
	nums := []uint64{200, 0, 1<<63 + 5, 0, 65535, 70000, 0}
	texts := []string{"", "", "", long, "", "", "end"}
	place := 0
	for i, g := range order {
		if place+sizes[i] > end {
			fails(t, g, r, api.ErrShort)
			return
		}
		n, s, err := g.call(r)
		if n != nums[i] || s != texts[i] || err != nil {
			t.Errorf("thing %d: %d, %q, %v", i, n, s, err)
		}
		place += sizes[i]
		stands(t, g.name, r, place, end-place)
	}
}

// P1.4: every number of a narrow width, and each bit of a wide one, comes back.
func TestNumbersBack(t *testing.T) {
	for n := range 1 << 16 {
		b := fixed.P8(fixed.P16(nil, uint16(n)), uint8(n))
		r := fixed.New(string(b))
		two, err := r.U16()
		one, bad := r.U8()
		if int(two) != n || one != uint8(n) || err != nil || bad != nil || r.End() != nil {
			t.Fatal(n, two, one, err, bad)
		}
	}
	for i := range 64 {
		n := uint64(1)<<i | 1<<(63-i)
		r := fixed.New(string(fixed.P32(fixed.P64(nil, n), uint32(n))))
		eight, err := r.U64()
		four, bad := r.U32()
		if eight != n || four != uint32(n) || err != nil || bad != nil || r.End() != nil {
			t.Fatal(n, eight, four, err, bad)
		}
	}
}
