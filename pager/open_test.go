package pager_test

import (
	"strings"
	"testing"

	"foyer/api"
	"foyer/disk"
	"foyer/pager"
)

// laid is a disk on which those sectors have come.
func laid(t *testing.T, n int, sectors map[int]string) *disk.Disk {
	t.Helper()
	d := disk.New(n)
	for i, s := range sectors {
		if e := d.Write(i, s); e != api.OK {
			t.Fatal(i, e)
		}
	}
	if e := d.Barrier(); e != api.OK {
		t.Fatal(e)
	}
	return d
}

// stored are the sectors of a store of 64 sectors, with the pages 1 and 121, and one that was dropped.
func stored() map[int]string {
	first := map[int]int{1: 2, 3: 63}
	second := map[int]int{121: 7}
	return map[int]string{
		0:  rootSector(4, 64, [8]int{3}),
		1:  rootSector(5, 64, [8]int{9, 5}),
		2:  sealed(7, "one"),
		63: sealed(254, "three"),
		7:  sealed(1, strings.Repeat("x", 240)),
		9:  sealed(255, chunkText(0, first)),
		5:  sealed(255, chunkText(1, second)),
	}
}

// refuses asks that there is no pager, and that what was answered is none; and how many operations were done.
func refuses(t *testing.T, name string, d *disk.Disk, want api.Errno, ops int) {
	t.Helper()
	was := d.Ops()
	p, e := pager.Open(d)
	if p != nil || e != want || d.Ops()-was != ops || d.Pending() != 0 {
		t.Errorf("%s: %v, %d with %d operations, not %d with %d", name, p, e, d.Ops()-was, want, ops)
	}
	looks(t, p, 0, 0, true)
	if x, e := p.Begin(); x != nil || e != api.ErrNil {
		t.Errorf("%s: Begin of none: %v, %d", name, x, e)
	}
}

// P10.1: without a disk; of a disk that is off, and of one that disk.New did not make, which has no sectors.
func TestOpenNone(t *testing.T) {
	refuses(t, "no disk", nil, api.ErrNil, 0)
	d := laid(t, 64, stored())
	d.Arm(0)
	d.Barrier()
	refuses(t, "off", d, api.ErrOff, 0)
	refuses(t, "a zero disk", &disk.Disk{}, api.ErrArg, 0)
}

// P10.1: the chapter's first example, of disks of all sorts of sizes.
func TestOpenFresh(t *testing.T) {
	for _, n := range []int{64, 65, 200, 1023, 1024} {
		d := disk.New(n)
		p := opened(t, d)
		looks(t, p, n-2, 0, false)
		if d.Ops() != 2 || d.Pending() != 0 {
			t.Errorf("%d operations, %d pending", d.Ops(), d.Pending())
		}
		x, e := p.Begin()
		if e != api.OK || len(x.Pages()) != 0 {
			t.Error(e, x.Pages())
		}
	}
}

// P10.1: of what Pick calls blank there is a pager without a root: its first root comes into the sector 0.
func TestOpenBlank(t *testing.T) {
	part := rootSector(1, 64, [8]int{3})
	for name, sectors := range map[string]map[int]string{
		"a root that came in part": {0: part[:200] + blank[200:]},
		"no root, and blank":       {0: strings.Repeat("x", 256)},
		"blank, and no root":       {1: strings.Repeat("x", 256), 2: sealed(7, "a"), 3: sealed(255, chunkText(0, map[int]int{1: 2}))},
	} {
		d := laid(t, 64, sectors)
		p := opened(t, d)
		looks(t, p, 62, 0, false)
		x, _ := p.Begin()
		if len(x.Pages()) != 0 {
			t.Error(name, x.Pages())
		}
		x.New(9, "b")
		if e := x.Commit(); e != api.OK {
			t.Error(name, e)
		}
		if s, _ := d.Read(0); s != rootSector(1, 64, [8]int{3}) {
			t.Errorf("%s: % x", name, s)
		}
		looks(t, opened(t, d), 60, 1, false)
	}
}

// P10.1: of a store: the greater root counts, used are the roots, the chunks and the pages; each chunk is read once.
func TestOpenStore(t *testing.T) {
	d := laid(t, 64, stored())
	was := d.Ops()
	p := opened(t, d)
	if d.Ops()-was != 4 || d.Pending() != 0 {
		t.Errorf("%d operations, %d pending", d.Ops()-was, d.Pending())
	}
	looks(t, p, 64-2-2-3, 5, false)
	x, e := p.Begin()
	if e != api.OK {
		t.Fatal(e)
	}
	for page, want := range map[int]string{1: "one", 3: "three", 121: strings.Repeat("x", 240)} {
		kind, body, e := x.Read(page)
		if body != want || kind != map[int]int{1: 7, 3: 254, 121: 1}[page] || e != api.OK {
			t.Errorf("page %d: %d, %q, %d", page, kind, body, e)
		}
	}
	// Nothing was changed since, so that a Commit has nothing to do.
	was = d.Ops()
	if e := x.Commit(); e != api.OK || d.Ops() != was {
		t.Error(e, d.Ops()-was)
	}
}

// P10.1: the error of the first Read that answers one, at each of them; behind a Boot the store is as it was.
func TestOpenPower(t *testing.T) {
	for n := range 4 {
		d := laid(t, 64, stored())
		d.Arm(n)
		refuses(t, "power", d, api.ErrOff, n)
		if !d.Off() {
			t.Error("not off")
		}
		d.Boot(nil)
		looks(t, opened(t, d), 57, 5, false)
	}
	// Both are read ahead of all that is asked of them.
	d := laid(t, 64, map[int]string{0: strings.Repeat("x", 256), 1: strings.Repeat("y", 256)})
	d.Arm(1)
	refuses(t, "no roots, and power", d, api.ErrOff, 1)
}

// with are a store's sectors, some of them changed.
func with(changes map[int]string) map[int]string {
	sectors := stored()
	for i, s := range changes {
		sectors[i] = s
	}
	return sectors
}

// chunk is the sealed text of the first chunk of a store.
func chunk(stands map[int]int) map[int]string {
	return map[int]string{9: sealed(255, chunkText(0, stands))}
}

// P10.1: each thing for which a store is broken, and how much is read till it is found.
func TestOpenBroken(t *testing.T) {
	x := strings.Repeat("x", 256)
	good := sealed(255, chunkText(0, map[int]int{1: 2}))
	for _, g := range []struct {
		name    string
		changes map[int]string
		ops     int
	}{
		{"two sectors that are no root's", map[int]string{0: x, 1: x}, 2},
		{"two roots, in part", map[int]string{0: rootSector(4, 64, [8]int{3})[:100] + blank[100:], 1: x}, 2},
		{"more sectors", map[int]string{1: rootSector(5, 65, [8]int{9, 5})}, 2},
		{"the most sectors, and no chunks", map[int]string{1: rootSector(5, 1024, [8]int{})}, 2},
		{"a chunk's sector is blank", map[int]string{9: blank}, 3},
		{"a chunk's sector with another byte", map[int]string{9: good[:100] + "\x01" + good[101:]}, 3},
		{"a chunk in part", map[int]string{5: good[:200] + x[200:]}, 4},
		{"a chunk of the kind 254", map[int]string{9: sealed(254, chunkText(0, map[int]int{1: 2}))}, 3},
		{"a chunk of the kind 1", map[int]string{5: sealed(1, chunkText(0, map[int]int{1: 2}))}, 4},
		{"a chunk of 239 bytes", map[int]string{9: sealed(255, blank[:239])}, 3},
		{"a chunk of no bytes", map[int]string{9: sealed(255, "")}, 3},
		{"a page in the sector 1", chunk(map[int]int{1: 1}), 3},
		{"a page in the sector 1024", chunk(map[int]int{120: 1024}), 3},
		{"a page in the sector 65535", chunk(map[int]int{50: 65535}), 3},
		{"a page in the sector behind the last one", chunk(map[int]int{1: 64}), 4},
		{"a page in the sector 1023", chunk(map[int]int{1: 1023}), 4},
		{"two pages of a chunk in one sector", chunk(map[int]int{1: 20, 120: 20}), 4},
		{"pages of two chunks in one sector", chunk(map[int]int{1: 7}), 4},
		{"a page in its own chunk's sector", chunk(map[int]int{1: 9}), 4},
		{"a page in the next chunk's sector", chunk(map[int]int{1: 5}), 4},
		{"a page in the chunk's sector ahead", map[int]string{5: sealed(255, chunkText(1, map[int]int{240: 9}))}, 4},
	} {
		refuses(t, g.name, laid(t, 64, with(g.changes)), api.ErrBroken, g.ops)
	}
	refuses(t, "fewer sectors", laid(t, 65, stored()), api.ErrBroken, 2)
}

// P10.1: what is found first is told: chunk by chunk, and what is used twice behind all of them.
func TestOpenFirst(t *testing.T) {
	d := laid(t, 64, with(map[int]string{9: blank}))
	d.Arm(3)
	refuses(t, "a broken chunk ahead of a power that goes", d, api.ErrBroken, 3)
	if d.Off() {
		t.Error("a chunk was read behind a broken one")
	}
	d = laid(t, 64, with(chunk(map[int]int{1: 20, 2: 20})))
	d.Arm(3)
	refuses(t, "a power that goes ahead of what is used twice", d, api.ErrOff, 3)
	d = laid(t, 64, with(map[int]string{1: rootSector(5, 65, [8]int{9, 5})}))
	d.Arm(2)
	refuses(t, "other sectors ahead of a power that goes", d, api.ErrBroken, 2)
}

// P10.1: where the root with the greater epoch is broken in what it tells, the other one does not count.
func TestOpenGreater(t *testing.T) {
	sectors := with(map[int]string{3: sealed(255, chunkText(0, map[int]int{1: 2})), 9: blank})
	refuses(t, "the greater root", laid(t, 64, sectors), api.ErrBroken, 3)
	sectors[1] = rootSector(5, 64, [8]int{9, 5})[:130] + blank[130:]
	looks(t, opened(t, laid(t, 64, sectors)), 60, 4, false)
}

// P10.1: the pages themselves are not read: one that is broken is told by its Read.
func TestOpenPages(t *testing.T) {
	d := laid(t, 64, with(map[int]string{2: blank, 7: strings.Repeat("x", 256)}))
	looks(t, opened(t, d), 57, 5, false)
}

// P10.1: a disk whose last sectors are used, and one of which all are.
func TestOpenFull(t *testing.T) {
	stands := map[int]int{}
	for page := 1; page <= 61; page++ {
		stands[page] = 64 - page
	}
	d := laid(t, 64, map[int]string{0: rootSector(1, 64, [8]int{2}), 2: sealed(255, chunkText(0, stands))})
	looks(t, opened(t, d), 0, 1, false)
	stands = map[int]int{960: 1023}
	d = laid(t, 1024, map[int]string{0: rootSector(1, 1024, [8]int{7: 1022}), 1022: sealed(255, chunkText(7, stands))})
	looks(t, opened(t, d), 1020, 1, false)
}

// P10.2: of a pager that is none, and of one that Open did not make, which has no disk.
func TestPagerNone(t *testing.T) {
	for name, p := range map[string]*pager.Pager{"nil": nil, "zero": {}} {
		looks(t, p, 0, 0, true)
		if x, e := p.Begin(); x != nil || e != api.ErrNil {
			t.Error(name, x, e)
		}
		looks(t, p, 0, 0, true)
	}
}
