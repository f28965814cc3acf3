package disk_test

import (
	"math"
	"strings"
	"testing"

	"foyer/api"
	"foyer/disk"
)

// of is a sector's bytes, all alike.
func of(b byte) string { return strings.Repeat(string([]byte{b}), 256) }

// part is the first so many bytes of the one, and the rest of the other.
func part(first byte, n int, rest byte) string { return of(first)[:n] + of(rest)[n:] }

// brief tells a sector by how many bytes it has, and its first and last ones, as it is too long to read.
func brief(s string) string {
	if len(s) < 10 {
		return s
	}
	return s[:4] + ".." + s[len(s)-4:]
}

// fresh is a new disk of so many sectors.
func fresh(t *testing.T, n int) *disk.Disk {
	t.Helper()
	d := disk.New(n)
	if d == nil {
		t.Fatalf("no disk of %d sectors", n)
	}
	return d
}

// reads asks for what stands in a sector.
func reads(t *testing.T, d *disk.Disk, i int, want string) {
	t.Helper()
	if s, e := d.Read(i); s != want || e != api.OK {
		t.Errorf("sector %d: %d bytes %q, %d; not %q", i, len(s), brief(s), e, brief(want))
	}
}

// noRead asks for a Read that is refused, and that it answers nothing beside.
func noRead(t *testing.T, d *disk.Disk, i int, want api.Errno) {
	t.Helper()
	if s, e := d.Read(i); s != "" || e != want {
		t.Errorf("Read(%d): %q, %d; not %d", i, brief(s), e, want)
	}
}

// writes asks for what a Write answers.
func writes(t *testing.T, d *disk.Disk, i int, s string, want api.Errno) {
	t.Helper()
	if e := d.Write(i, s); e != want {
		t.Errorf("Write(%d, %d bytes %q): %d, not %d", i, len(s), brief(s), e, want)
	}
}

// barrier asks for what a Barrier answers.
func barrier(t *testing.T, d *disk.Disk, want api.Errno) {
	t.Helper()
	if e := d.Barrier(); e != want {
		t.Errorf("Barrier: %d, not %d", e, want)
	}
}

// shows asks for a disk's counts.
func shows(t *testing.T, name string, d *disk.Disk, ops, pending int, off bool) {
	t.Helper()
	if d.Ops() != ops || d.Pending() != pending || d.Off() != off {
		t.Errorf("%s: %d operations, %d pending, off %v; not %d, %d, %v", name, d.Ops(), d.Pending(), d.Off(), ops, pending, off)
	}
}

// The chapter's examples.
func TestExamples(t *testing.T) {
	a, b := of('a'), of('b')
	d := fresh(t, 64)
	writes(t, d, 3, a, api.OK)
	reads(t, d, 3, a)
	shows(t, "written", d, 2, 1, false)
	barrier(t, d, api.OK)
	shows(t, "behind the barrier", d, 3, 0, false)
	d.Arm(1)
	writes(t, d, 3, b, api.OK)
	noRead(t, d, 3, api.ErrOff)
	shows(t, "off", d, 4, 1, true)
	d.Boot(nil)
	reads(t, d, 3, a)
	writes(t, d, 64, a, api.ErrArg)
	writes(t, d, 0, "x", api.ErrArg)
}

// P5.1: disks of the sizes that may be, and of no others.
func TestNew(t *testing.T) {
	for _, n := range []int{math.MinInt, -1024, -64, -1, 0, 1, 2, 62, 63, 1025, 1026, 2048, math.MaxInt32, math.MaxInt} {
		if d := disk.New(n); d != nil {
			t.Errorf("a disk of %d sectors: %d", n, d.Sectors())
		}
	}
	for _, n := range []int{64, 65, 100, 512, 1023, 1024} {
		d := fresh(t, n)
		if d.Sectors() != n {
			t.Errorf("%d sectors, not %d", d.Sectors(), n)
		}
		shows(t, "new", d, 0, 0, false)
		for i := range n {
			reads(t, d, i, of(0))
		}
		noRead(t, d, n, api.ErrArg)
		shows(t, "read through", d, n, 0, false)
		for range 50 {
			barrier(t, d, api.OK)
		}
		shows(t, "a new one is not armed", d, n+50, 0, false)
	}
}

// P5.1: two disks have nothing in common.
func TestTwo(t *testing.T) {
	d, other := fresh(t, 64), fresh(t, 64)
	writes(t, d, 0, of('a'), api.OK)
	barrier(t, d, api.OK)
	d.Arm(0)
	barrier(t, d, api.ErrOff)
	shows(t, "the other one", other, 0, 0, false)
	reads(t, other, 0, of(0))
}

// P5.1: the counts behind each operation.
func TestCounts(t *testing.T) {
	d := fresh(t, 70)
	steps := []struct {
		name         string
		do           func()
		ops, pending int
	}{
		{"Read", func() { d.Read(5) }, 1, 0},
		{"Write", func() { d.Write(5, of('a')) }, 2, 1},
		{"Write of another sector", func() { d.Write(6, of('b')) }, 3, 2},
		{"Write of the same sector", func() { d.Write(5, of('c')) }, 4, 3},
		{"Write of the same once more", func() { d.Write(5, of('c')) }, 5, 4},
		{"Read of a pending one", func() { d.Read(5) }, 6, 4},
		{"Barrier", func() { d.Barrier() }, 7, 0},
		{"Barrier of none", func() { d.Barrier() }, 8, 0},
		{"Write behind a Barrier", func() { d.Write(5, of('d')) }, 9, 1},
		{"Sectors, Ops, Pending, Off", func() { d.Sectors(); d.Ops(); d.Pending(); d.Off() }, 9, 1},
		{"Arm", func() { d.Arm(9); d.Arm(-1) }, 9, 1},
		{"Boot", func() { d.Boot(nil) }, 9, 0},
		{"Read behind Boot", func() { d.Read(5) }, 10, 0},
		{"Write behind Boot", func() { d.Write(5, of('d')) }, 11, 1},
	}
	for _, s := range steps {
		s.do()
		shows(t, s.name, d, s.ops, s.pending, false)
		if d.Sectors() != 70 {
			t.Errorf("%s: %d sectors", s.name, d.Sectors())
		}
	}
}

// refusal is an operation whose arguments may not be.
type refusal struct {
	name string
	do   func(d *disk.Disk) (string, api.Errno)
}

// refusals are operations of a disk of n sectors that are wrong in one thing, or in two.
func refusals(n int) []refusal {
	var l []refusal
	add := func(name string, do func(d *disk.Disk) (string, api.Errno)) {
		l = append(l, refusal{name, do})
	}
	write := func(i int, s string) func(d *disk.Disk) (string, api.Errno) {
		return func(d *disk.Disk) (string, api.Errno) { return "", d.Write(i, s) }
	}
	for _, i := range []int{-1, -2, math.MinInt, n, n + 1, math.MaxInt} {
		add("Read of no sector", func(d *disk.Disk) (string, api.Errno) { return d.Read(i) })
		add("Write of no sector", write(i, of('x')))
		add("Write of no sector, too short", write(i, "x"))
	}
	for _, i := range []int{0, n - 1} {
		for _, size := range []int{0, 1, 255, 257, 512} {
			add("Write of another length", write(i, strings.Repeat("x", size)))
		}
	}
	return l
}

// P5.2: what may not be is ErrArg, is not counted, writes nothing, and takes nothing from what the disk is armed with.
func TestRefused(t *testing.T) {
	for _, r := range refusals(64) {
		for _, n := range []int{-1, 0, 1, 2, 7} {
			d := fresh(t, 64)
			d.Write(0, of('a'))
			d.Arm(n)
			for range 5 {
				if s, e := r.do(d); s != "" || e != api.ErrArg {
					t.Fatalf("%s, armed with %d: %q, %d", r.name, n, brief(s), e)
				}
			}
			shows(t, r.name, d, 1, 1, false)
			if n < 0 {
				reads(t, d, 0, of('a'))
				reads(t, d, 63, of(0))
				continue
			}
			for range n {
				barrier(t, d, api.OK)
			}
			barrier(t, d, api.ErrOff)
		}
	}
}

// P5.2: of a disk that is off all is ErrOff, also what may not be; nothing is counted, and nothing is done.
func TestOff(t *testing.T) {
	d := fresh(t, 64)
	writes(t, d, 5, of('a'), api.OK)
	d.Arm(0)
	barrier(t, d, api.ErrOff)
	for _, r := range refusals(64) {
		if s, e := r.do(d); s != "" || e != api.ErrOff {
			t.Errorf("%s while it is off: %q, %d", r.name, brief(s), e)
		}
	}
	for _, i := range []int{0, 5, 63} {
		noRead(t, d, i, api.ErrOff)
		writes(t, d, i, of('x'), api.ErrOff)
	}
	barrier(t, d, api.ErrOff)
	shows(t, "off", d, 1, 1, true)
	d.Boot([]byte{1})
	shows(t, "booted", d, 1, 0, false)
	reads(t, d, 5, of('a'))
	reads(t, d, 0, of(0))
}

// P5.2: the first and the last sector, written and read.
func TestEnds(t *testing.T) {
	for _, n := range []int{64, 65, 1024} {
		d := fresh(t, n)
		writes(t, d, 0, of('a'), api.OK)
		writes(t, d, n-1, of('z'), api.OK)
		for range 2 {
			reads(t, d, 0, of('a'))
			reads(t, d, 1, of(0))
			reads(t, d, n-2, of(0))
			reads(t, d, n-1, of('z'))
			barrier(t, d, api.OK)
		}
	}
}

// P5.2: all bytes come back as they were.
func TestBytes(t *testing.T) {
	var b []byte
	for i := range 256 {
		b = append(b, byte(i*37+11))
	}
	d := fresh(t, 64)
	writes(t, d, 9, string(b), api.OK)
	reads(t, d, 9, string(b))
	barrier(t, d, api.OK)
	reads(t, d, 9, string(b))
}

// P5.2: Read answers the last pending write of the sector, and of no other one; else the sector.
func TestReadLast(t *testing.T) {
	d := fresh(t, 64)
	writes(t, d, 1, of('a'), api.OK)
	writes(t, d, 2, of('b'), api.OK)
	barrier(t, d, api.OK)
	writes(t, d, 1, of('c'), api.OK)
	reads(t, d, 1, of('c'))
	reads(t, d, 2, of('b'))
	writes(t, d, 1, of('d'), api.OK)
	writes(t, d, 3, of('e'), api.OK)
	reads(t, d, 1, of('d'))
	reads(t, d, 2, of('b'))
	reads(t, d, 3, of('e'))
	writes(t, d, 1, of('a'), api.OK)
	reads(t, d, 1, of('a'))
	shows(t, "all wait", d, 13, 4, false)
}

// P5.2: a Barrier lays the pending writes in their order, and leaves none: a Boot behind it, by which none came, takes nothing back.
func TestBarrier(t *testing.T) {
	d := fresh(t, 64)
	for _, b := range []byte("abcde") {
		writes(t, d, 7, of(b), api.OK)
		writes(t, d, 8, of(b+10), api.OK)
	}
	shows(t, "written", d, 10, 10, false)
	barrier(t, d, api.OK)
	shows(t, "laid", d, 11, 0, false)
	reads(t, d, 7, of('e'))
	reads(t, d, 8, of('o'))
	d.Boot(nil)
	reads(t, d, 7, of('e'))
	reads(t, d, 8, of('o'))
	writes(t, d, 7, of('f'), api.OK)
	reads(t, d, 7, of('f'))
	reads(t, d, 8, of('o'))
}

// P5.2: more writes than a fate tells of come all by a Barrier; by a Boot those come of which a fate tells.
func TestMany(t *testing.T) {
	const all, most = 5000, 4096
	full := []byte(strings.Repeat("\xff", all/8+8))
	for _, boot := range []bool{false, true} {
		d := fresh(t, 64)
		for i := range all {
			writes(t, d, i%60, of(byte(i/60)), api.OK)
		}
		shows(t, "all wait", d, all, all, false)
		last := all
		if boot {
			d.Boot(full)
			last = most
		} else {
			barrier(t, d, api.OK)
		}
		if d.Pending() != 0 {
			t.Errorf("%d wait", d.Pending())
		}
		for i := last - 60; i < last; i++ {
			reads(t, d, i%60, of(byte(i/60)))
		}
	}
}

// nothing asks that all calls of a disk that is none answer so.
func nothing(t *testing.T, d *disk.Disk) {
	t.Helper()
	for _, i := range []int{-1, 0, 63, 2000} {
		noRead(t, d, i, api.ErrNil)
		writes(t, d, i, of('a'), api.ErrNil)
		writes(t, d, i, "a", api.ErrNil)
	}
	barrier(t, d, api.ErrNil)
	if d.Sectors() != 0 {
		t.Errorf("%d sectors", d.Sectors())
	}
	shows(t, "no disk", d, 0, 0, false)
}

// P5.4: a disk that is none.
func TestNone(t *testing.T) {
	var d *disk.Disk
	nothing(t, d)
	for _, n := range []int{-1, 0, 1} {
		d.Arm(n)
		nothing(t, d)
	}
	for _, choices := range [][]byte{nil, {1}, {1, 0, 0, 9}} {
		d.Boot(choices)
		nothing(t, d)
	}
}

// R1: a disk that New did not make has no sectors, and panics at nothing.
func TestZero(t *testing.T) {
	var d disk.Disk
	shows(t, "zero", &d, 0, 0, false)
	for range 2 {
		noRead(t, &d, 0, api.ErrArg)
		writes(t, &d, 0, of('a'), api.ErrArg)
		if d.Sectors() != 0 || d.Barrier() != api.OK {
			t.Errorf("%d sectors, or no Barrier", d.Sectors())
		}
		d.Boot([]byte{1, 0, 0, 9})
	}
	d.Arm(0)
	barrier(t, &d, api.ErrOff)
	shows(t, "off", &d, 2, 0, true)
}
