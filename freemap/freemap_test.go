package freemap_test

import (
	"math"
	"slices"
	"testing"

	"foyer/api"
	"foyer/freemap"
)

// sizes are numbers of things at the borders of bytes, of words, and of what may be.
var sizes = []int{1, 2, 7, 8, 9, 10, 15, 16, 17, 63, 64, 65, 127, 128, 129, 1023, 1024}

// fresh is a new map of n things.
func fresh(t *testing.T, n int) *freemap.Map {
	t.Helper()
	m := freemap.New(n)
	if m == nil {
		t.Fatalf("no map of %d things", n)
	}
	return m
}

// with is a map of n things of which these are used.
func with(t *testing.T, n int, used ...int) *freemap.Map {
	t.Helper()
	m := fresh(t, n)
	for _, i := range used {
		uses(t, m, i, api.OK)
	}
	return m
}

// span are the numbers from the first one on, ahead of the end.
func span(from, end int) []int {
	var l []int
	for i := from; i < end; i++ {
		l = append(l, i)
	}
	return l
}

// uses asks for what a Use answers.
func uses(t *testing.T, m *freemap.Map, i int, want api.Errno) {
	t.Helper()
	if e := m.Use(i); e != want {
		t.Errorf("Use(%d): %d, not %d", i, e, want)
	}
}

// gives asks for what a Give answers.
func gives(t *testing.T, m *freemap.Map, i int, want api.Errno) {
	t.Helper()
	if e := m.Give(i); e != want {
		t.Errorf("Give(%d): %d, not %d", i, e, want)
	}
}

// takes asks for what a Take answers.
func takes(t *testing.T, m *freemap.Map, want int, we api.Errno) {
	t.Helper()
	if i, e := m.Take(); i != want || e != we {
		t.Errorf("Take: %d, %d; not %d, %d", i, e, want, we)
	}
}

// shows asks that of a map's n things these are used, by all that looks at it.
func shows(t *testing.T, m *freemap.Map, n int, used ...int) {
	t.Helper()
	p := newPlain(n)
	for _, i := range used {
		p.used[i] = true
	}
	p.alike(t, m)
}

// The chapter's examples.
func TestExamples(t *testing.T) {
	m := fresh(t, 10)
	uses(t, m, 0, api.OK)
	uses(t, m, 2, api.OK)
	takes(t, m, 1, api.OK)
	takes(t, m, 3, api.OK)
	gives(t, m, 0, api.OK)
	gives(t, m, 0, api.ErrNone)
	if s := m.Put(); s != "\x0e\x00" {
		t.Errorf("bytes % x", s)
	}
	if l := m.Runs(); !slices.Equal(l, [][2]int{{0, 1}, {4, 6}}) {
		t.Errorf("runs %v", l)
	}
}

// P6.1: maps of as many things as may be, all free, and of no other numbers.
func TestNew(t *testing.T) {
	for _, n := range []int{math.MinInt, -1024, -64, -8, -1, 0, 1025, 1026, 2048, math.MaxInt32, math.MaxInt} {
		if m := freemap.New(n); m != nil {
			t.Errorf("a map of %d things: %d", n, m.Len())
		}
	}
	for _, n := range sizes {
		m := fresh(t, n)
		if m.Len() != n || m.Left() != n {
			t.Errorf("of %d: %d things, %d free", n, m.Len(), m.Left())
		}
		for i := range n {
			if m.Has(i) {
				t.Errorf("of %d: %d is used", n, i)
			}
		}
		shows(t, m, n)
	}
}

// P6.1: two maps have nothing in common.
func TestApart(t *testing.T) {
	a, b := fresh(t, 70), fresh(t, 70)
	uses(t, a, 65, api.OK)
	uses(t, b, 3, api.OK)
	shows(t, a, 70, 65)
	shows(t, b, 70, 3)
}

// P6.1: a number of no thing is not used, also when all things are.
func TestHasNone(t *testing.T) {
	for _, n := range sizes {
		free, full := fresh(t, n), with(t, n, span(0, n)...)
		for _, i := range []int{math.MinInt, -1024, -64, -8, -1, n, n + 1, n + 7, n + 64, 1024, 1025, math.MaxInt32, math.MaxInt} {
			if i >= 0 && i < n {
				continue
			}
			if free.Has(i) || full.Has(i) {
				t.Errorf("of %d: Has(%d): %v, %v", n, i, free.Has(i), full.Has(i))
			}
		}
		if !full.Has(0) || !full.Has(n-1) {
			t.Errorf("of %d: the first, the last one: %v, %v", n, full.Has(0), full.Has(n-1))
		}
	}
}

// P6.1, P6.2: what Len, Left and Has tell behind each call.
func TestLooks(t *testing.T) {
	m := fresh(t, 66)
	uses(t, m, 0, api.OK)
	shows(t, m, 66, 0)
	uses(t, m, 65, api.OK)
	shows(t, m, 66, 0, 65)
	takes(t, m, 1, api.OK)
	shows(t, m, 66, 0, 1, 65)
	gives(t, m, 0, api.OK)
	shows(t, m, 66, 1, 65)
	uses(t, m, 63, api.OK)
	uses(t, m, 64, api.OK)
	shows(t, m, 66, 1, 63, 64, 65)
	takes(t, m, 0, api.OK)
	takes(t, m, 2, api.OK)
	shows(t, m, 66, 0, 1, 2, 63, 64, 65)
	gives(t, m, 64, api.OK)
	shows(t, m, 66, 0, 1, 2, 63, 65)
}

// P6.2: each thing there is is used and given, once, and no other one with it.
func TestUseGive(t *testing.T) {
	for _, n := range sizes {
		m := fresh(t, n)
		for _, i := range []int{0, 1, 6, 7, 8, 9, 15, 16, 31, 32, 62, 63, 64, 65, 127, 128, 1022, 1023} {
			if i >= n {
				continue
			}
			gives(t, m, i, api.ErrNone)
			shows(t, m, n)
			uses(t, m, i, api.OK)
			shows(t, m, n, i)
			uses(t, m, i, api.ErrBusy)
			shows(t, m, n, i)
			gives(t, m, i, api.OK)
			shows(t, m, n)
			gives(t, m, i, api.ErrNone)
			shows(t, m, n)
		}
	}
}

// P6.2: a number of no thing is refused ahead of all else, and nothing changes.
func TestUseGiveNone(t *testing.T) {
	for _, n := range sizes {
		none, some, all := fresh(t, n), with(t, n, n/2), with(t, n, span(0, n)...)
		for _, i := range []int{math.MinInt, -1025, -64, -8, -1, n, n + 1, n + 7, n + 63, n + 64, 1024, 1025, math.MaxInt32, math.MaxInt} {
			if i >= 0 && i < n {
				continue
			}
			for _, m := range []*freemap.Map{none, some, all} {
				uses(t, m, i, api.ErrArg)
				gives(t, m, i, api.ErrArg)
			}
		}
		shows(t, none, n)
		shows(t, some, n, n/2)
		shows(t, all, n, span(0, n)...)
	}
}

// P6.2: from an empty map to a full one, each Take has the next thing; a full one has none, and stays full.
func TestTake(t *testing.T) {
	for _, n := range sizes {
		m := fresh(t, n)
		for i := range n {
			takes(t, m, i, api.OK)
			if m.Left() != n-i-1 || !m.Has(i) || m.Has(i+1) {
				t.Fatalf("of %d, behind %d: %d free, Has %v, %v", n, i, m.Left(), m.Has(i), m.Has(i+1))
			}
		}
		for range 3 {
			takes(t, m, -1, api.ErrSpace)
		}
		shows(t, m, n, span(0, n)...)
	}
}

// P6.2: what was given is taken again, the lowest one first.
func TestTakeAgain(t *testing.T) {
	for _, n := range []int{66, 130, 1024} {
		m := with(t, n, span(0, n)...)
		for _, i := range []int{n - 1, 7, 64, 0, 63, 8} {
			gives(t, m, i, api.OK)
		}
		for _, i := range []int{0, 7, 8, 63, 64, n - 1} {
			takes(t, m, i, api.OK)
		}
		takes(t, m, -1, api.ErrSpace)
		shows(t, m, n, span(0, n)...)
	}
}

// P6.2: a Take goes by all that is used, and has the one thing that is free wherever it is.
func TestTakeOnly(t *testing.T) {
	for _, n := range sizes {
		m := with(t, n, span(0, n)...)
		for i := range n {
			gives(t, m, i, api.OK)
			takes(t, m, i, api.OK)
			takes(t, m, -1, api.ErrSpace)
		}
	}
}

// P6.1 to P6.3, R3: all calls of a map that is none.
func TestNoMap(t *testing.T) {
	var m *freemap.Map
	if m.Len() != 0 || m.Left() != 0 {
		t.Errorf("%d things, %d free", m.Len(), m.Left())
	}
	for _, i := range []int{math.MinInt, -1, 0, 1, 1023, 1024, math.MaxInt} {
		if m.Has(i) {
			t.Errorf("Has(%d)", i)
		}
		uses(t, m, i, api.ErrNil)
		gives(t, m, i, api.ErrNil)
	}
	takes(t, m, -1, api.ErrNil)
	if m.Put() != "" || m.Copy() != nil || len(m.Runs()) != 0 {
		t.Errorf("bytes % x, copy %v, runs %v", m.Put(), m.Copy(), m.Runs())
	}
}

// R1: a map that New did not make has no things, and all calls of it end.
func TestZero(t *testing.T) {
	m := &freemap.Map{}
	uses(t, m, 0, api.ErrArg)
	gives(t, m, 0, api.ErrArg)
	takes(t, m, -1, api.ErrSpace)
	c := m.Copy()
	if m.Len() != 0 || m.Left() != 0 || m.Has(0) || m.Put() != "" || len(m.Runs()) != 0 || c == nil || c.Len() != 0 {
		t.Errorf("%d things, %d free, %v, % x, %v, %v", m.Len(), m.Left(), m.Has(0), m.Put(), m.Runs(), c)
	}
}
