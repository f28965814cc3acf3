package fate_test

import (
	"bytes"
	"math"
	"math/rand"
	"slices"
	"testing"

	"foyer/api"
	"foyer/fate"
)

// wantPut asks for the choices of a fate, or for an error with none.
func wantPut(t *testing.T, name string, f api.Fate, want []byte, code api.Errno) {
	t.Helper()
	got, e := fate.Put(f)
	if e != code || !bytes.Equal(got, want) {
		t.Errorf("%s: %x, %d; not %x, %d", name, got, e, want, code)
	}
	if code != api.OK && got != nil {
		t.Errorf("%s: %x beside an error", name, got)
	}
}

// P4.2: choices of fates that may be.
func TestPut(t *testing.T) {
	for _, g := range []struct {
		name string
		f    api.Fate
		want []byte
	}{
		{"example", tornAt(came(3, 0, 2), 2, 128), []byte{0x05, 1, 0, 0x80}},
		{"no writes", untorn(nil), nil},
		{"no writes, a list", untorn([]bool{}), nil},
		{"none came", untorn(came(3)), []byte{0}},
		{"one came", untorn(came(1, 0)), []byte{1}},
		{"two came", untorn(came(3, 0, 2)), []byte{5}},
		{"seven writes", untorn(every(7)), []byte{0x7f}},
		{"eight writes", untorn(every(8)), []byte{0xff}},
		{"nine writes", untorn(every(9)), []byte{0xff, 1}},
		{"nine writes, the last one", untorn(came(9, 8)), []byte{0, 1}},
		{"sixteen writes", untorn(came(16, 7, 8, 15)), []byte{0x80, 0x81}},
		{"seventeen writes", untorn(came(17)), []byte{0, 0, 0}},
		{"torn at 0", tornAt(came(1, 0), 0, 0), []byte{1, 0, 0, 0}},
		{"torn at 1", tornAt(came(1, 0), 0, 1), []byte{1, 0, 0, 1}},
		{"torn at 255", tornAt(came(1, 0), 0, 255), []byte{1, 0, 0, 255}},
		{"torn at 256", tornAt(came(1, 0), 0, 256), []byte{1, 0, 1, 0}},
		{"the first of three", tornAt(came(9, 2, 5, 8), 2, 9), []byte{0x24, 1, 0, 0, 9}},
		{"the second of three", tornAt(came(9, 2, 5, 8), 5, 9), []byte{0x24, 1, 1, 0, 9}},
		{"the third of three", tornAt(came(9, 2, 5, 8), 8, 9), []byte{0x24, 1, 2, 0, 9}},
	} {
		wantPut(t, g.name, g.f, g.want, api.OK)
	}
}

// P4.2: fates that may not be.
func TestPutArg(t *testing.T) {
	for _, g := range []struct {
		name string
		f    api.Fate
	}{
		{"a zero fate, torn 0 of none", api.Fate{}},
		{"torn is one behind the last write", tornAt(every(3), 3, 0)},
		{"torn is no write, far off", tornAt(every(3), math.MaxInt, 0)},
		{"torn is -2", tornAt(every(3), -2, 0)},
		{"torn is the least", tornAt(every(3), math.MinInt, 0)},
		{"torn did not come", tornAt(came(3, 0, 2), 1, 9)},
		{"torn did not come, the last one", tornAt(came(3, 0), 2, 9)},
		{"torn, none came", tornAt(came(3), 0, 9)},
		{"torn of no writes", tornAt(nil, 0, 9)},
		{"At -1", tornAt(every(3), 1, -1)},
		{"At the least", tornAt(every(3), 1, math.MinInt)},
		{"At 257", tornAt(every(3), 1, 257)},
		{"At the greatest", tornAt(every(3), 1, math.MaxInt)},
		{"At 1 without a torn one", api.Fate{Came: every(3), Torn: -1, At: 1}},
		{"At -1 without a torn one", api.Fate{Came: every(3), Torn: -1, At: -1}},
		{"At 256 without a torn one, nor a write", api.Fate{Torn: -1, At: 256}},
	} {
		wantPut(t, g.name, g.f, nil, api.ErrArg)
	}
}

// P4.2: 127 that came may be ahead of the torn one, whatever else is ahead or behind; 128 may not.
func TestPutAhead(t *testing.T) {
	sparse := make([]bool, 600)
	for i := 1; i < len(sparse); i += 2 {
		sparse[i] = true
	}
	laid := func(came []bool, tail ...byte) []byte {
		b := make([]byte, (len(came)+7)/8)
		for i, c := range came {
			if c {
				b[i/8] += 1 << (i % 8)
			}
		}
		return append(b, tail...)
	}
	wantPut(t, "126 ahead", tornAt(every(200), 126, 44), laid(every(200), 126, 0, 44), api.OK)
	wantPut(t, "127 ahead", tornAt(every(200), 127, 256), laid(every(200), 127, 1, 0), api.OK)
	wantPut(t, "128 ahead", tornAt(every(200), 128, 256), nil, api.ErrLong)
	wantPut(t, "129 ahead", tornAt(every(200), 129, 256), nil, api.ErrLong)
	wantPut(t, "255 ahead", tornAt(every(300), 255, 0), nil, api.ErrLong)
	wantPut(t, "256 ahead", tornAt(every(300), 256, 0), nil, api.ErrLong)
	wantPut(t, "127 ahead of the write 255", tornAt(sparse, 255, 3), laid(sparse, 127, 0, 3), api.OK)
	wantPut(t, "128 ahead of the write 257", tornAt(sparse, 257, 3), nil, api.ErrLong)
	wantPut(t, "many came, none torn", untorn(every(600)), laid(every(600)), api.OK)
	wantPut(t, "many came behind the torn one", tornAt(every(600), 0, 3), laid(every(600), 0, 0, 3), api.OK)
}

// P4.2: 4096 writes may be, and not one more.
func TestPutMany(t *testing.T) {
	full := bytes.Repeat([]byte{0xff}, 512)
	wantPut(t, "4096", untorn(every(4096)), full, api.OK)
	wantPut(t, "4096, torn", tornAt(every(4096), 127, 9), append(slices.Clone(full), 127, 0, 9), api.OK)
	wantPut(t, "4096, the last one torn", tornAt(came(4096, 4095), 4095, 9), append(make([]byte, 511), 0x80, 0, 0, 9), api.OK)
	wantPut(t, "4096, none came", untorn(came(4096)), make([]byte, 512), api.OK)
	for _, n := range []int{4097, 4104, 5000, 1 << 20} {
		wantPut(t, "too many", untorn(every(n)), nil, api.ErrLong)
		wantPut(t, "too many, none came", untorn(came(n)), nil, api.ErrLong)
		wantPut(t, "too many, torn", tornAt(every(n), 3, 9), nil, api.ErrLong)
		wantPut(t, "too many, 128 ahead", tornAt(every(n), 128, 9), nil, api.ErrLong)
	}
}

// P4.2: a fate that may not be is told ahead of one that is too long.
func TestPutOrder(t *testing.T) {
	wantPut(t, "too many, At without a torn one", api.Fate{Came: every(4097), Torn: -1, At: 1}, nil, api.ErrArg)
	wantPut(t, "too many, torn is no write", tornAt(every(4097), 4097, 1), nil, api.ErrArg)
	wantPut(t, "too many, torn did not come", tornAt(came(4097, 0), 4096, 1), nil, api.ErrArg)
	wantPut(t, "128 ahead, At 257", tornAt(every(200), 128, 257), nil, api.ErrArg)
	wantPut(t, "128 ahead, At -1", tornAt(every(200), 128, -1), nil, api.ErrArg)
}

// back asks that a fate comes back from its choices, whatever stands behind a torn one's.
func back(t *testing.T, f api.Fate) {
	t.Helper()
	b, e := fate.Put(f)
	if e != api.OK {
		t.Fatalf("%v: %d", f, e)
	}
	wantFate(t, "back", fate.Read(b, len(f.Came)), f)
	if f.Torn != -1 {
		wantFate(t, "back, more behind", fate.Read(append(b, 1, 2, 3), len(f.Came)), f)
	}
	again, e := fate.Put(fate.Read(b, len(f.Came)))
	if e != api.OK || !bytes.Equal(again, b[:len(b):len(b)]) {
		t.Errorf("%v: %x, then %x", f, b, again)
	}
}

// P4.4: each fate of up to ten writes comes back from its choices, torn anywhere.
func TestBack(t *testing.T) {
	for writes := range 11 {
		for bits := range 1 << writes {
			l := make([]bool, writes)
			for i := range l {
				l[i] = bits>>i&1 == 1
			}
			back(t, untorn(l))
			for i, c := range l {
				if c {
					back(t, tornAt(l, i, (bits*7+i)%257))
				}
			}
		}
	}
	for at := range 257 {
		back(t, tornAt(every(9), 8, at))
	}
}

// P4.4: fates of many writes come back.
func TestBackMany(t *testing.T) {
	r := rand.New(rand.NewSource(44))
	for _, writes := range []int{100, 127, 128, 129, 255, 256, 257, 1000, 4095, 4096} {
		back(t, untorn(every(writes)))
		back(t, untorn(came(writes)))
		for range 40 {
			l := make([]bool, writes)
			var those []int
			for i := range l {
				if l[i] = r.Intn(3) == 0; l[i] {
					those = append(those, i)
				}
			}
			back(t, untorn(l))
			back(t, tornAt(l, those[r.Intn(min(len(those), 128))], r.Intn(257)))
		}
	}
}

// R5, R6: the fate stays as it is, and what is answered is new.
func TestPutLeaves(t *testing.T) {
	f := tornAt(came(9, 0, 2, 8), 2, 9)
	first, e := fate.Put(f)
	second, e2 := fate.Put(f)
	if e != api.OK || e2 != api.OK || !bytes.Equal(first, second) {
		t.Errorf("%x, %d; then %x, %d", first, e, second, e2)
	}
	clear(first[:cap(first)])
	if want := []byte{5, 1, 1, 0, 9}; !bytes.Equal(second, want) {
		t.Errorf("behind a change: %x", second)
	}
	wantFate(t, "what was handed in", f, tornAt(came(9, 0, 2, 8), 2, 9))
}
