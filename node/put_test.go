package node_test

import (
	"strconv"
	"testing"

	"foyer/api"
	"foyer/node"
)

// given is a node, and what Put must answer.
type given struct {
	name string
	node api.Node
	want api.Errno
}

// leaves are leaves at the edges of what may be.
func leaves() []given {
	a, b := short("a", "x"), short("b", "")
	long := longer("b", 7, 300)
	return []given{
		{"example", leaf(a, long), api.OK},
		{"one cell", leaf(a), api.OK},
		{"two cells", leaf(a, b), api.OK},
		{"no cell", leaf(), api.ErrArg},
		{"cells that are nil", api.Node{Leaf: true}, api.ErrArg},
		{"no list has elements", api.Node{Leaf: true, Cells: []api.Cell{a}, Keys: []string{}, Kids: []int{}}, api.OK},
		{"a Key", api.Node{Leaf: true, Cells: []api.Cell{a}, Keys: []string{"k"}}, api.ErrArg},
		{"a Kid", api.Node{Leaf: true, Cells: []api.Cell{a}, Kids: []int{3}}, api.ErrArg},
		{"a Key and Kids", api.Node{Leaf: true, Cells: []api.Cell{a}, Keys: []string{"k"}, Kids: []int{3, 4}}, api.ErrArg},
		{"Keys and Kids alone", api.Node{Leaf: true, Keys: []string{"k"}, Kids: []int{3, 4}}, api.ErrArg},
		{"a key of 0", leaf(short("", "x")), api.ErrArg},
		{"a longer one's key of 0", leaf(longer("", 7, 300)), api.ErrArg},
		{"a second key of 0", leaf(a, short("", "x")), api.ErrArg},
		{"a key of 1", leaf(short("\x00", "x")), api.OK},
		{"a key of 40", leaf(short(x(40), "x")), api.OK},
		{"a key of 41", leaf(short(x(41), "x")), api.ErrArg},
		{"a longer one's key of 41", leaf(longer(x(41), 7, 300)), api.ErrArg},
		{"a second key of 41", leaf(a, short(x(41), "x")), api.ErrArg},
		{"a key of 255", leaf(short(x(255), "x")), api.ErrArg},
		{"a key of 256", leaf(short(x(256), "x")), api.ErrArg},
		{"a key of 257", leaf(short(x(257), "x")), api.ErrArg},
		{"keys alike", leaf(a, a), api.ErrArg},
		{"keys alike, values not", leaf(a, longer("a", 7, 300)), api.ErrArg},
		{"last keys alike", leaf(a, b, b), api.ErrArg},
		{"keys fall", leaf(b, a), api.ErrArg},
		{"last keys fall", leaf(short("A", ""), b, a), api.ErrArg},
		{"a key that begins as the next one", leaf(a, short("aa", "")), api.OK},
		{"a key that begins as the one ahead", leaf(short("aa", ""), a), api.ErrArg},
		{"keys rise byte by byte", leaf(short("\x7f", ""), short("\x80", ""), short("\xff", ""), short("\xff\x00", "")), api.OK},
		{"a byte of 128 is above one of 127", leaf(short("\x80", ""), short("\x7f", "")), api.ErrArg},
		{"a value of 0", leaf(b), api.OK},
		{"a value of 40", leaf(short("a", x(40))), api.OK},
		{"a value of 41", leaf(short("a", x(41))), api.ErrArg},
		{"a value of 255", leaf(short("a", x(255))), api.ErrArg},
		{"a value of 256", leaf(short("a", x(256))), api.ErrArg},
		{"a second value of 41", leaf(a, short("b", x(41))), api.ErrArg},
		{"a Value and a First", leaf(api.Cell{Key: "a", Value: "x", First: 7}), api.ErrArg},
		{"a Value and a Long", leaf(api.Cell{Key: "a", Value: "x", Long: 300}), api.ErrArg},
		{"a Value, a First, a Long", leaf(api.Cell{Key: "a", Value: "x", First: 7, Long: 300}), api.ErrArg},
		{"a First alone", leaf(longer("a", 7, 0)), api.ErrArg},
		{"a Long alone", leaf(longer("a", 0, 300)), api.ErrArg},
		{"First 1", leaf(longer("a", 1, 300)), api.OK},
		{"First 960", leaf(longer("a", 960, 300)), api.OK},
		{"First 961", leaf(longer("a", 961, 300)), api.ErrArg},
		{"First below 0", leaf(longer("a", -1, 300)), api.ErrArg},
		{"First 7 above 2^16", leaf(longer("a", 1<<16+7, 300)), api.ErrArg},
		{"Long 1", leaf(longer("a", 7, 1)), api.ErrArg},
		{"Long 40", leaf(longer("a", 7, 40)), api.ErrArg},
		{"Long 41", leaf(longer("a", 7, 41)), api.OK},
		{"Long 2000", leaf(longer("a", 7, 2000)), api.OK},
		{"Long 2001", leaf(longer("a", 7, 2001)), api.ErrArg},
		{"Long below 0", leaf(longer("a", 7, -300)), api.ErrArg},
		{"Long 300 above 2^16", leaf(longer("a", 7, 1<<16+300)), api.ErrArg},
	}
}

// kids is a node of the key m between these Kids.
func kids(l ...int) api.Node { return api.Node{Keys: []string{"m"}, Kids: l} }

// inners are nodes that are no leaves, at the edges of what may be.
func inners() []given {
	return []given{
		{"example", inner(3, "m"), api.OK},
		{"two keys", inner(3, "m", "n"), api.OK},
		{"a zero node", api.Node{}, api.ErrArg},
		{"no key, no Kid", api.Node{Keys: []string{}, Kids: []int{}}, api.ErrArg},
		{"no key, a Kid", api.Node{Kids: []int{3}}, api.ErrArg},
		{"a Cell", api.Node{Cells: []api.Cell{short("a", "x")}, Keys: []string{"m"}, Kids: []int{3, 4}}, api.ErrArg},
		{"a Cell alone", api.Node{Cells: []api.Cell{short("a", "x")}}, api.ErrArg},
		{"no Kid", kids(), api.ErrArg},
		{"as many Kids as keys", kids(3), api.ErrArg},
		{"two Kids more", kids(3, 4, 5), api.ErrArg},
		{"as many Kids as two keys", api.Node{Keys: []string{"m", "n"}, Kids: []int{3, 4}}, api.ErrArg},
		{"a key of 0", inner(3, ""), api.ErrArg},
		{"a second key of 0", inner(3, "m", ""), api.ErrArg},
		{"a key of 40", inner(3, x(40)), api.OK},
		{"a key of 41", inner(3, x(41)), api.ErrArg},
		{"a second key of 41", inner(3, "m", x(41)), api.ErrArg},
		{"a key of 256", inner(3, x(256)), api.ErrArg},
		{"keys alike", inner(3, "m", "m"), api.ErrArg},
		{"keys fall", inner(3, "n", "m"), api.ErrArg},
		{"last keys fall", inner(3, "l", "n", "m"), api.ErrArg},
		{"a byte of 128 is above one of 127", inner(3, "\x80", "\x7f"), api.ErrArg},
		{"Kids alike, and fall", api.Node{Keys: []string{"m", "n", "o"}, Kids: []int{5, 5, 4, 1}}, api.OK},
		{"Kid 0 first", kids(0, 4), api.ErrArg},
		{"Kid 0 last", kids(3, 0), api.ErrArg},
		{"Kid 1", kids(1, 1), api.OK},
		{"Kid 960", kids(960, 960), api.OK},
		{"Kid 961 first", kids(961, 4), api.ErrArg},
		{"Kid 961 last", kids(3, 961), api.ErrArg},
		{"Kid below 0 first", kids(-1, 4), api.ErrArg},
		{"Kid below 0 last", kids(3, -1), api.ErrArg},
		{"Kid 3 above 2^16", kids(1<<16+3, 4), api.ErrArg},
	}
}

// sized are nodes about as long as fits, and far longer ones.
func sized() []given {
	c, d := short("c"+x(39), x(40)), short("d"+x(39), x(40))
	k, l, m, n := "k"+x(39), "l"+x(39), "m"+x(39), "n"+x(39)
	out := []given{
		{"a leaf of 239", leaf(c, d, short("e"+x(39), x(31))), api.OK},
		{"a leaf of 240", leaf(c, d, short("e"+x(39), x(32))), api.OK},
		{"a leaf of 241", leaf(c, d, short("e"+x(39), x(33))), api.ErrLong},
		{"a leaf of 240, a longer one last", leaf(c, d, longer("e"+x(39), 7, 300), longer(x(22), 7, 300)), api.OK},
		{"a leaf of 241, a longer one last", leaf(c, d, longer("e"+x(39), 7, 300), longer(x(23), 7, 300)), api.ErrLong},
		{"a leaf that does not fit, with keys alike", leaf(c, d, d, d), api.ErrArg},
		{"a leaf that does not fit, with a key of 41", leaf(c, d, short(x(41), x(40))), api.ErrArg},
		{"a leaf that does not fit, with a Kid", api.Node{Leaf: true, Cells: []api.Cell{c, d, short(x(40), x(40))}, Kids: []int{3}}, api.ErrArg},
		{"Keys of 239", inner(3, k, l, m, n, "o"+x(39), x(17)), api.OK},
		{"Keys of 240", inner(3, k, l, m, n, "o"+x(39), x(18)), api.OK},
		{"Keys of 241", inner(3, k, l, m, n, "o"+x(39), x(19)), api.ErrLong},
		{"Keys that do not fit, and fall", inner(3, n, m, l, k, "o"+x(39), x(40)), api.ErrArg},
		{"Keys that do not fit, with a Kid 0", inner(0, k, l, m, n, "o"+x(39), x(40)), api.ErrArg},
	}
	// The most cells that fit, and one more.
	most := leaf()
	for i := range 80 {
		most.Cells = append(most.Cells, short(string([]byte{byte(i)}), ""))
	}
	out = append(out, given{"79 cells", leaf(most.Cells[:79]...), api.OK}, given{"80 cells", most, api.ErrLong})
	// A byte tells of so many cells what it tells of 256 less.
	for _, many := range []int{80, 255, 256, 257, 300, 512, 513} {
		cells, keys, at := leaf(), inner(3), strconv.Itoa(many)
		for i := range many {
			cells.Cells = append(cells.Cells, short(two(i+1), ""))
			keys.Keys, keys.Kids = append(keys.Keys, two(i+1)), append(keys.Kids, 5)
		}
		out = append(out, given{"cells: " + at, cells, api.ErrLong}, given{"keys: " + at, keys, api.ErrLong})
	}
	return out
}

// all are all of these.
func all() []given { return append(append(leaves(), inners()...), sized()...) }

// The chapter's examples of bytes.
func TestExamples(t *testing.T) {
	for _, g := range []struct {
		node  api.Node
		bytes string
	}{
		{leaf(short("a", "x"), longer("b", 7, 300)), "01 02 01 61 01 78 01 62 ff 00 07 01 2c"},
		{inner(3, "m"), "02 01 00 03 01 6d 00 04"},
	} {
		if s, e := node.Put(g.node); s != raw(g.bytes) || e != api.OK {
			t.Errorf("Put(%v): %x, %d", g.node, s, e)
		}
		if n, err := node.Get(raw(g.bytes)); !same(n, g.node) || err != nil {
			t.Errorf("Get(%s): %v, %v", g.bytes, n, err)
		}
	}
}

// P11.1: Put, and Fits, at the edges of what may be, and of what fits.
func TestPut(t *testing.T) {
	for _, g := range all() {
		want, e := put(g.node)
		if e != g.want {
			t.Fatalf("%s: the plain Put tells %d", g.name, e)
		}
		if s, e := node.Put(g.node); s != want || e != g.want {
			t.Errorf("%s: %x, %d; not %x, %d", g.name, s, e, want, g.want)
		}
		if node.Fits(g.node) != (g.want == api.OK) {
			t.Errorf("%s: Fits tells %v", g.name, node.Fits(g.node))
		}
	}
}

// P11.1: the lengths that sized tells are those that are meant.
func TestSized(t *testing.T) {
	for i, want := range map[int]int{0: 239, 1: 240, 2: 241, 3: 240, 4: 241, 8: 239, 9: 240, 10: 241} {
		if g := sized()[i]; len(bytesOf(g.node)) != want {
			t.Errorf("%s: %d bytes", g.name, len(bytesOf(g.node)))
		}
	}
}

// P11.1: by hand, bytes of what has more than one of each.
func TestPutByHand(t *testing.T) {
	for _, g := range []struct {
		node  api.Node
		bytes string
	}{
		{leaf(short("\x00", "")), "01 01 01 00 00"},
		{leaf(longer("a", 960, 2000)), "01 01 01 61 ff 03 c0 07 d0"},
		{leaf(longer("a", 1, 41), short("bc", "de"), longer("f", 256, 256)), "01 03 01 61 ff 00 01 00 29 02 62 63 02 64 65 01 66 ff 01 00 01 00"},
		{leaf(short("\xff", "\xff")), "01 01 01 ff 01 ff"},
		{api.Node{Keys: []string{"a", "bc"}, Kids: []int{960, 1, 258}}, "02 02 03 c0 01 61 00 01 02 62 63 01 02"},
	} {
		if s, e := node.Put(g.node); s != raw(g.bytes) || e != api.OK {
			t.Errorf("Put(%v): %x, %d; not %s", g.node, s, e, g.bytes)
		}
	}
}
