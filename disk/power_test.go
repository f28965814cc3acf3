package disk_test

import (
	"bytes"
	"math"
	"slices"
	"testing"

	"foyer/api"
	"foyer/disk"
)

// operation is one whose arguments may be, and how many writes it leaves pending.
type operation struct {
	name    string
	pending int
	do      func(d *disk.Disk) (string, api.Errno)
}

// operations are one of each sort.
func operations() []operation {
	return []operation{
		{"Read", 0, func(d *disk.Disk) (string, api.Errno) { return d.Read(3) }},
		{"Write", 1, func(d *disk.Disk) (string, api.Errno) { return "", d.Write(3, of('x')) }},
		{"Barrier", 0, func(d *disk.Disk) (string, api.Errno) { return "", d.Barrier() }},
	}
}

// P5.3: armed with n, just n operations are done, of whatever sort; the next one is not, and is not counted.
func TestArm(t *testing.T) {
	for n := range 12 {
		for _, o := range operations() {
			d := fresh(t, 64)
			d.Arm(n)
			for i := range n {
				if _, e := o.do(d); e != api.OK {
					t.Fatalf("%s, armed with %d: %d at %d", o.name, n, e, i)
				}
				shows(t, o.name, d, i+1, (i+1)*o.pending, false)
			}
			for range 3 {
				if s, e := o.do(d); s != "" || e != api.ErrOff {
					t.Errorf("%s, armed with %d: %q, %d", o.name, n, brief(s), e)
				}
				shows(t, o.name+", off", d, n, n*o.pending, true)
			}
		}
	}
}

// P5.3: all sorts of operations take from one number.
func TestArmMixed(t *testing.T) {
	d := fresh(t, 64)
	d.Arm(4)
	writes(t, d, 1, of('a'), api.OK)
	reads(t, d, 1, of('a'))
	writes(t, d, 64, of('a'), api.ErrArg)
	barrier(t, d, api.OK)
	noRead(t, d, -1, api.ErrArg)
	writes(t, d, 1, of('b'), api.OK)
	writes(t, d, 1, "b", api.ErrArg)
	shows(t, "armed with 0", d, 4, 1, false)
	barrier(t, d, api.ErrOff)
	shows(t, "off", d, 4, 1, true)
}

// P5.3: a great number is far away.
func TestArmFar(t *testing.T) {
	for _, n := range []int{1000, math.MaxInt32, math.MaxInt} {
		d := fresh(t, 64)
		d.Arm(n)
		for range 1000 {
			barrier(t, d, api.OK)
		}
		shows(t, "far", d, 1000, 0, false)
	}
}

// P5.3: below 0 a disk is armed no longer; armed anew, the last number counts.
func TestArmAnew(t *testing.T) {
	for _, below := range []int{-1, -2, math.MinInt} {
		for n := range 3 {
			d := fresh(t, 64)
			d.Arm(n)
			d.Arm(below)
			for range 10 {
				barrier(t, d, api.OK)
			}
			shows(t, "no longer armed", d, 10, 0, false)
		}
	}
	for _, first := range []int{-1, 0, 1, 5, 100} {
		for n := range 4 {
			d := fresh(t, 64)
			d.Arm(first)
			d.Arm(n)
			for range n {
				barrier(t, d, api.OK)
			}
			barrier(t, d, api.ErrOff)
			shows(t, "armed anew", d, n, 0, true)
		}
	}
	d := fresh(t, 64)
	d.Arm(3)
	barrier(t, d, api.OK)
	barrier(t, d, api.OK)
	d.Arm(3)
	barrier(t, d, api.OK)
	barrier(t, d, api.OK)
	barrier(t, d, api.OK)
	barrier(t, d, api.ErrOff)
}

// P5.3, P5.4: a disk that is off may be armed, stays off, and is not armed behind its Boot.
func TestArmOff(t *testing.T) {
	for _, n := range []int{-1, 0, 1, 2, 9} {
		d := fresh(t, 64)
		d.Arm(0)
		barrier(t, d, api.ErrOff)
		d.Arm(n)
		for range 3 {
			barrier(t, d, api.ErrOff)
		}
		shows(t, "off", d, 0, 0, true)
		d.Boot(nil)
		for range 12 {
			barrier(t, d, api.OK)
		}
		shows(t, "booted", d, 12, 0, false)
	}
}

// P5.2, P5.4: behind the operation by which the power went the disk is no longer armed: it does not go once more.
func TestGoesOnce(t *testing.T) {
	for n := range 4 {
		for _, o := range operations() {
			d := fresh(t, 64)
			d.Arm(n)
			for range n + 1 {
				o.do(d)
			}
			d.Boot(nil)
			for range 12 {
				if _, e := o.do(d); e != api.OK {
					t.Errorf("%s behind Boot: %d", o.name, e)
				}
			}
			shows(t, o.name, d, n+12, 12*o.pending, false)
		}
	}
}

// P5.2: by the operation by which the power goes nothing is written, and nothing is laid, whatever comes of what waited.
func TestGoesUndone(t *testing.T) {
	all := []byte{0xff}
	d := fresh(t, 64)
	writes(t, d, 3, of('a'), api.OK)
	barrier(t, d, api.OK)
	d.Arm(0)
	writes(t, d, 3, of('b'), api.ErrOff)
	shows(t, "Write", d, 2, 0, true)
	d.Boot(all)
	reads(t, d, 3, of('a'))
	writes(t, d, 3, of('c'), api.OK)
	d.Arm(0)
	barrier(t, d, api.ErrOff)
	shows(t, "Barrier", d, 4, 1, true)
	d.Boot(nil)
	reads(t, d, 3, of('a'))
}

// P5.4: what comes of writes by choices, while it is on and while it is off.
func TestBoot(t *testing.T) {
	for _, g := range []struct {
		name    string
		choices []byte
		want    [3]string
	}{
		{"no choices", nil, [3]string{of('a'), of('b'), of('c')}},
		{"too few: of three writes nothing", []byte{}, [3]string{of('a'), of('b'), of('c')}},
		{"none came", []byte{0}, [3]string{of('a'), of('b'), of('c')}},
		{"the first one came", []byte{1}, [3]string{of('x'), of('b'), of('c')}},
		{"the second one came", []byte{2}, [3]string{of('a'), of('y'), of('c')}},
		{"the third one came, to the first one's sector", []byte{4}, [3]string{of('z'), of('b'), of('c')}},
		{"all came", []byte{7}, [3]string{of('z'), of('y'), of('c')}},
		{"bits of no write", []byte{0xf8}, [3]string{of('a'), of('b'), of('c')}},
		{"all came, bits of no write too", []byte{0xff}, [3]string{of('z'), of('y'), of('c')}},
		{"the first one torn", []byte{1, 0, 0, 100}, [3]string{part('x', 100, 'a'), of('b'), of('c')}},
		{"the second one torn", []byte{7, 1, 0, 7}, [3]string{of('z'), part('y', 7, 'b'), of('c')}},
		{"the third one torn over the first one", []byte{7, 2, 0, 255}, [3]string{part('z', 255, 'x'), of('y'), of('c')}},
		{"the third one torn, the first one did not come", []byte{6, 1, 0, 1}, [3]string{part('z', 1, 'a'), of('y'), of('c')}},
		{"the first one torn, the third one whole over it", []byte{5, 0, 0, 9}, [3]string{of('z'), of('b'), of('c')}},
		{"torn at 0", []byte{1, 0, 0, 0}, [3]string{of('a'), of('b'), of('c')}},
		{"torn at 256", []byte{1, 0, 1, 0}, [3]string{of('x'), of('b'), of('c')}},
		{"too few to tear", []byte{1, 0, 9}, [3]string{of('x'), of('b'), of('c')}},
		{"more than needed", []byte{1, 0, 0, 100, 255, 255, 255}, [3]string{part('x', 100, 'a'), of('b'), of('c')}},
		{"a torn one that is none", []byte{1, 128, 0, 100}, [3]string{of('x'), of('b'), of('c')}},
	} {
		for _, off := range []bool{false, true} {
			d := fresh(t, 64)
			for i, b := range []byte("abc") {
				writes(t, d, i, of(b), api.OK)
			}
			barrier(t, d, api.OK)
			writes(t, d, 0, of('x'), api.OK)
			writes(t, d, 1, of('y'), api.OK)
			writes(t, d, 0, of('z'), api.OK)
			d.Arm(5)
			if off {
				d.Arm(0)
				barrier(t, d, api.ErrOff)
			}
			shows(t, g.name, d, 7, 3, off)
			d.Boot(g.choices)
			shows(t, g.name+", booted", d, 7, 0, false)
			if d.Sectors() != 64 {
				t.Errorf("%s: %d sectors", g.name, d.Sectors())
			}
			for i, want := range g.want {
				reads(t, d, i, want)
			}
			reads(t, d, 3, of(0))
			for range 12 {
				barrier(t, d, api.OK)
			}
			for i, want := range g.want {
				reads(t, d, i, want)
			}
			shows(t, g.name+", not armed", d, 26, 0, false)
		}
	}
}

// P5.4: nine writes need two bytes of choices.
func TestBootNine(t *testing.T) {
	for _, g := range []struct {
		choices []byte
		last    string
		first   string
	}{
		{[]byte{0xff}, of(0), of('a')},
		{[]byte{0xff, 0}, of(0), of('a')},
		{[]byte{0xff, 1}, of('i'), of('a')},
		{[]byte{0, 1}, of('i'), of(0)},
		{[]byte{0xff, 1, 8, 0, 50}, part('i', 50, 0), of('a')},
		{[]byte{0xff, 1, 9, 0, 50}, of('i'), part('a', 50, 0)},
	} {
		d := fresh(t, 64)
		for i := range 9 {
			writes(t, d, i, of(byte('a'+i)), api.OK)
		}
		d.Boot(g.choices)
		reads(t, d, 0, g.first)
		reads(t, d, 8, g.last)
	}
}

// P5.4: without pending writes a Boot changes no sector, whatever the choices are.
func TestBootOfNone(t *testing.T) {
	for _, choices := range [][]byte{nil, {}, {0}, {0xff}, {0, 0, 9}, {0xff, 0, 0, 9}, bytes.Repeat([]byte{0xff}, 700)} {
		for _, off := range []bool{false, true} {
			d := fresh(t, 64)
			d.Boot(choices)
			shows(t, "new, booted", d, 0, 0, false)
			writes(t, d, 3, of('a'), api.OK)
			barrier(t, d, api.OK)
			if off {
				d.Arm(0)
				noRead(t, d, 3, api.ErrOff)
			}
			d.Boot(choices)
			d.Boot(choices)
			shows(t, "booted", d, 2, 0, false)
			reads(t, d, 3, of('a'))
			reads(t, d, 0, of(0))
		}
	}
}

// P5.4: what did not come at a Boot does not come at a later one, or by a Barrier.
func TestBootDrops(t *testing.T) {
	d := fresh(t, 64)
	writes(t, d, 3, of('a'), api.OK)
	d.Boot([]byte{0})
	reads(t, d, 3, of(0))
	d.Boot([]byte{0xff})
	barrier(t, d, api.OK)
	reads(t, d, 3, of(0))
	shows(t, "dropped", d, 4, 0, false)
}

// P5.1, P5.4: Ops counts on behind Boot.
func TestOpsGoOn(t *testing.T) {
	d := fresh(t, 64)
	for i := range 20 {
		d.Arm(1)
		writes(t, d, 3, of('a'), api.OK)
		barrier(t, d, api.ErrOff)
		shows(t, "off", d, 2*i+1, 1, true)
		d.Boot([]byte{1})
		reads(t, d, 3, of('a'))
		shows(t, "on", d, 2*i+2, 0, false)
	}
}

// R5: choices are not changed, and not kept.
func TestBootLeaves(t *testing.T) {
	room := []byte{1, 0, 0, 100, 0xaa}
	choices := room[:4]
	d := fresh(t, 64)
	writes(t, d, 3, of('a'), api.OK)
	d.Boot(choices)
	if !slices.Equal(room, []byte{1, 0, 0, 100, 0xaa}) {
		t.Errorf("choices changed: %x", room)
	}
	clear(room)
	reads(t, d, 3, part('a', 100, 0))
}
