package freemap_test

import (
	"math"
	"slices"
	"strings"
	"testing"

	"foyer/api"
	"foyer/freemap"
)

// puts asks for a map's bytes.
func puts(t *testing.T, m *freemap.Map, want string) {
	t.Helper()
	if s := m.Put(); s != want {
		t.Errorf("of %d: bytes % x, not % x", m.Len(), s, want)
	}
}

// reads asks for the map that is read of its bytes.
func reads(t *testing.T, n int, s string) *freemap.Map {
	t.Helper()
	m, e := freemap.Read(n, s)
	if m == nil || e != api.OK {
		t.Fatalf("Read(%d, % x): %v, %d", n, s, m, e)
	}
	return m
}

// noMap asks that nothing is read, and why.
func noMap(t *testing.T, n int, s string, want api.Errno) {
	t.Helper()
	if m, e := freemap.Read(n, s); m != nil || e != want {
		t.Errorf("Read(%d, %d bytes % x): %v, %d; not %d", n, len(s), s[:min(len(s), 8)], m, e, want)
	}
}

// runs asks for a map's runs.
func runs(t *testing.T, m *freemap.Map, want ...[2]int) {
	t.Helper()
	if l := m.Runs(); !slices.Equal(l, want) {
		t.Errorf("of %d: runs %v, not %v", m.Len(), l, want)
	}
}

// P6.3: the bytes of maps of which no, some, or all things are used; and the maps come back of them.
func TestPut(t *testing.T) {
	rest := strings.Repeat("\x00", 120)
	full := strings.Repeat("\xff", 127)
	for _, c := range []struct {
		n    int
		used []int
		want string
	}{
		{1, nil, "\x00"},
		{1, []int{0}, "\x01"},
		{7, nil, "\x00"},
		{7, []int{0, 2, 6}, "\x45"},
		{7, span(0, 7), "\x7f"},
		{8, nil, "\x00"},
		{8, []int{7}, "\x80"},
		{8, []int{0, 4, 7}, "\x91"},
		{8, span(0, 8), "\xff"},
		{9, nil, "\x00\x00"},
		{9, []int{8}, "\x00\x01"},
		{9, []int{1, 7, 8}, "\x82\x01"},
		{9, span(0, 9), "\xff\x01"},
		{10, nil, "\x00\x00"},
		{10, []int{9}, "\x00\x02"},
		{10, []int{3, 5, 8}, "\x28\x01"},
		{10, span(0, 10), "\xff\x03"},
		{64, nil, rest[:8]},
		{64, []int{0, 15, 16, 63}, "\x01\x80\x01\x00\x00\x00\x00\x80"},
		{64, span(0, 64), full[:8]},
		{65, nil, rest[:9]},
		{65, []int{64}, "\x00\x00\x00\x00\x00\x00\x00\x00\x01"},
		{65, []int{9, 63, 64}, "\x00\x02\x00\x00\x00\x00\x00\x80\x01"},
		{65, span(0, 65), full[:8] + "\x01"},
		{1023, span(0, 1023), full + "\x7f"},
		{1024, nil, rest + rest[:8]},
		{1024, []int{0, 62, 1021, 1023}, "\x01\x00\x00\x00\x00\x00\x00\x40" + rest[:119] + "\xa0"},
		{1024, span(0, 1024), full + "\xff"},
	} {
		m := with(t, c.n, c.used...)
		puts(t, m, c.want)
		shows(t, reads(t, c.n, c.want), c.n, c.used...)
		shows(t, m, c.n, c.used...)
	}
}

// P6.3: too few bytes, and too many, are those of no map.
func TestReadSize(t *testing.T) {
	for _, n := range sizes {
		s := fresh(t, n).Put()
		if len(s) != (n+7)/8 {
			t.Errorf("of %d: %d bytes", n, len(s))
		}
		noMap(t, n, "", api.ErrForm)
		noMap(t, n, s[1:], api.ErrForm)
		noMap(t, n, s+"\x00", api.ErrForm)
		noMap(t, n, s+s, api.ErrForm)
		noMap(t, n, s+strings.Repeat("\x00", 2000), api.ErrForm)
	}
	noMap(t, 8, "\xff\x00", api.ErrForm)
	noMap(t, 9, "\xff", api.ErrForm)
	noMap(t, 1024, strings.Repeat("\xff", 129), api.ErrForm)
}

// P6.3: bytes in which a bit of no thing is set are those of no map, whatever is used beside.
func TestReadNoThing(t *testing.T) {
	for _, n := range sizes {
		for _, used := range [][]int{nil, {0}, span(0, n)} {
			s := with(t, n, used...).Put()
			for i := n; i < 8*len(s); i++ {
				b := []byte(s)
				b[i/8] |= 1 << (i % 8)
				noMap(t, n, string(b), api.ErrForm)
			}
		}
	}
	noMap(t, 1, "\x02", api.ErrForm)
	noMap(t, 7, "\xff", api.ErrForm)
	noMap(t, 10, "\x0e\x04", api.ErrForm)
	noMap(t, 65, "\x00\x00\x00\x00\x00\x00\x00\x00\x80", api.ErrForm)
}

// P6.3: numbers of things that may not be are told first, whatever the bytes are.
func TestReadArg(t *testing.T) {
	for _, n := range []int{math.MinInt, -1024, -8, -1, 0, 1025, 1026, 2048, math.MaxInt32, math.MaxInt} {
		for _, s := range []string{"", "\x00", "\xff", strings.Repeat("\x00", 128), strings.Repeat("\x00", 129), strings.Repeat("\xff", 129), strings.Repeat("\x00", 256)} {
			noMap(t, n, s, api.ErrArg)
		}
	}
}

// P6.3: of all short bytes just those are read that are a map's, and a map puts what it was read of.
func TestReadAll(t *testing.T) {
	for n := 1; n <= 16; n++ {
		for v := range 1 << 16 {
			b := []byte{byte(v), byte(v >> 8)}[:(n+7)/8]
			if n <= 8 && v >= 256 {
				break
			}
			if v>>n != 0 {
				noMap(t, n, string(b), api.ErrForm)
				continue
			}
			m := reads(t, n, string(b))
			if s := m.Put(); s != string(b) || m.Len() != n {
				t.Fatalf("Read(%d, % x) puts % x, of %d", n, b, s, m.Len())
			}
		}
	}
}

// P6.2, P6.3: a map that was read goes on as one that was not.
func TestReadOn(t *testing.T) {
	m := reads(t, 10, "\x0e\x00")
	uses(t, m, 1, api.ErrBusy)
	gives(t, m, 9, api.ErrNone)
	takes(t, m, 0, api.OK)
	takes(t, m, 4, api.OK)
	gives(t, m, 2, api.OK)
	uses(t, m, 10, api.ErrArg)
	shows(t, m, 10, 0, 1, 3, 4)
	puts(t, m, "\x1b\x00")
}

// P6.3: what is done to a copy does not change the map, nor the other way round.
func TestCopy(t *testing.T) {
	for _, n := range []int{9, 65, 1024} {
		m := with(t, n, 2, n-1)
		c := m.Copy()
		shows(t, c, n, 2, n-1)
		uses(t, c, 0, api.OK)
		gives(t, c, 2, api.OK)
		takes(t, c, 1, api.OK)
		shows(t, m, n, 2, n-1)
		shows(t, c, n, 0, 1, n-1)
		gives(t, m, n-1, api.OK)
		takes(t, m, 0, api.OK)
		uses(t, m, 3, api.OK)
		shows(t, m, n, 0, 2, 3)
		shows(t, c, n, 0, 1, n-1)
		of := c.Copy()
		gives(t, of, n-1, api.OK)
		shows(t, c, n, 0, 1, n-1)
		shows(t, of, n, 0, 1)
	}
	full := with(t, 10, span(0, 10)...)
	c := full.Copy()
	takes(t, c, -1, api.ErrSpace)
	gives(t, full, 5, api.OK)
	takes(t, c, -1, api.ErrSpace)
	takes(t, full, 5, api.OK)
}

// P6.3: rows of free things at the beginning, at the end, and over the borders of bytes and words.
func TestRuns(t *testing.T) {
	for _, n := range sizes {
		runs(t, fresh(t, n), [2]int{0, n})
		runs(t, with(t, n, span(0, n)...))
	}
	runs(t, with(t, 10, span(3, 10)...), [2]int{0, 3})
	runs(t, with(t, 10, span(0, 8)...), [2]int{8, 2})
	runs(t, with(t, 10, 0, 9), [2]int{1, 8})
	runs(t, with(t, 10, 1, 3, 5, 7, 9), [2]int{0, 1}, [2]int{2, 1}, [2]int{4, 1}, [2]int{6, 1}, [2]int{8, 1})
	runs(t, with(t, 24, 5, 10, 11, 20), [2]int{0, 5}, [2]int{6, 4}, [2]int{12, 8}, [2]int{21, 3})
	runs(t, with(t, 16, 7), [2]int{0, 7}, [2]int{8, 8})
	runs(t, with(t, 16, 8), [2]int{0, 8}, [2]int{9, 7})
	runs(t, with(t, 130, 60, 70), [2]int{0, 60}, [2]int{61, 9}, [2]int{71, 59})
	runs(t, with(t, 130, 63), [2]int{0, 63}, [2]int{64, 66})
	runs(t, with(t, 130, 64), [2]int{0, 64}, [2]int{65, 65})
	runs(t, with(t, 130, 63, 64, 127, 128), [2]int{0, 63}, [2]int{65, 62}, [2]int{129, 1})
	runs(t, with(t, 130, span(0, 128)...), [2]int{128, 2})
	runs(t, with(t, 128, span(64, 128)...), [2]int{0, 64})
	runs(t, with(t, 1024, 0, 1023), [2]int{1, 1022})
	runs(t, with(t, 1024, span(1, 1023)...), [2]int{0, 1}, [2]int{1023, 1})
	runs(t, with(t, 1024, 512), [2]int{0, 512}, [2]int{513, 511})
	runs(t, with(t, 1023, span(0, 1022)...), [2]int{1022, 1})
}

// R5: runs that were answered are the asker's own, and those of one map behind another stay as they were.
func TestRunsOwn(t *testing.T) {
	m := with(t, 10, 4)
	l := m.Runs()
	l[0] = [2]int{7, 7}
	runs(t, m, [2]int{0, 4}, [2]int{5, 5})
	now := m.Runs()
	uses(t, m, 0, api.OK)
	if !slices.Equal(now, [][2]int{{0, 4}, {5, 5}}) {
		t.Errorf("runs of before: %v", now)
	}
	runs(t, m, [2]int{1, 3}, [2]int{5, 5})
}
