package node_test

import (
	"strings"
	"testing"

	"foyer/api"
	"foyer/node"
)

// bad is bytes that can't be read, and why.
type bad struct {
	name  string
	bytes string
	want  fault
}

// reads asks that Get answers what the plain one does.
func reads(t *testing.T, name, s string) {
	t.Helper()
	want, wrong := get(s)
	n, err := node.Get(s)
	if wrong.code != api.OK {
		isFault(t, name, err, wrong)
		if !isZero(n) {
			t.Errorf("%s: %v beside a fault", name, n)
		}
		return
	}
	if err != nil || !same(n, want) {
		t.Errorf("%s: %v, %v; not %v", name, n, err, want)
	}
}

// failing asks for those faults, of Get and of the plain one.
func failing(t *testing.T, l []bad) {
	t.Helper()
	for _, g := range l {
		if _, wrong := get(g.bytes); wrong != g.want {
			t.Fatalf("%s: the plain Get tells %v, not %v", g.name, wrong, g.want)
		}
		reads(t, g.name, g.bytes)
	}
}

// P11.2: the bytes of all nodes that Put is asked for; of those that may not be, or do not fit, a fault.
func TestGet(t *testing.T) {
	for _, g := range all() {
		s := bytesOf(g.node)
		reads(t, g.name, s)
		n, err := node.Get(s)
		if g.want == api.OK && (err != nil || !same(n, g.node)) {
			t.Errorf("%s: %v, %v", g.name, n, err)
		}
		if g.want == api.ErrLong {
			isFault(t, g.name, err, fault{api.ErrLong, 0})
		}
	}
}

// P11.2: too many bytes are told ahead of all else.
func TestGetLong(t *testing.T) {
	for _, head := range []string{"", "\x00", "\x03\x00", "\x01\x00", "\x01\x01\x00", "\x01\x01\x01a\x01x", "\x02\x01\x00\x00"} {
		for _, size := range []int{241, 242, 255, 256, 300, 1 << 16} {
			failing(t, []bad{{"long", head + strings.Repeat("\x00", size-len(head)), fault{api.ErrLong, 0}}})
		}
	}
	g := sized()[1].node
	reads(t, "240", bytesOf(g))
	failing(t, []bad{{"a byte more than 240", bytesOf(g) + "\x00", fault{api.ErrLong, 0}}})
}

// P11.2: the first two bytes: both are read ahead of all that is asked of them.
func TestGetHead(t *testing.T) {
	l := []bad{{"empty", "", fault{api.ErrShort, 0}}}
	for _, first := range []string{"\x00", "\x01", "\x02", "\x03", "\xff"} {
		l = append(l, bad{"one byte", first, fault{api.ErrShort, 1}})
	}
	for _, first := range []string{"\x00", "\x03", "\x04", "\x80", "\xff"} {
		for _, rest := range []string{"\x00", "\x01", "\xff", "\x01\x01a\x01x", "\x01\x00\x03\x01m\x00\x04", "\x00\x01", strings.Repeat("\x00", 239)} {
			l = append(l, bad{"no kind", first + rest, fault{api.ErrKind, 0}})
		}
	}
	for _, first := range []string{"\x01", "\x02"} {
		for _, rest := range []string{"", "\x00", "\x01a\x01x", "\x00\x03"} {
			l = append(l, bad{"a count of 0", first + "\x00" + rest, fault{api.ErrArg, 1}})
		}
	}
	failing(t, l)
}

// P11.2: nodes that are cut at each of their bytes: the reader's fault, where that begins which is cut.
func TestGetCut(t *testing.T) {
	whole := bytesOf(leaf(short("ab", "xyz"), longer("b", 7, 300), short("c", "")))
	places := []int{0, 1, 2, 2, 2, 5, 5, 5, 5, 9, 9, 11, 12, 12, 14, 14, 16, 16, 18}
	if len(places) != len(whole) {
		t.Fatal(len(places), len(whole))
	}
	for end, at := range places {
		failing(t, []bad{{"a leaf cut", whole[:end], fault{api.ErrShort, at}}})
	}
	reads(t, "a leaf", whole)
	whole = bytesOf(inner(3, "mn", "o"))
	places = []int{0, 1, 2, 2, 4, 4, 4, 7, 7, 9, 9, 11, 11}
	if len(places) != len(whole) {
		t.Fatal(len(places), len(whole))
	}
	for end, at := range places {
		failing(t, []bad{{"Keys cut", whole[:end], fault{api.ErrShort, at}}})
	}
	reads(t, "Keys", whole)
	for _, g := range all() {
		if s := bytesOf(g.node); len(s) <= 240 {
			for end := range len(s) {
				reads(t, g.name+", cut", s[:end])
			}
		}
	}
}

// P11.2: a count that is above what is there, or below.
func TestGetCount(t *testing.T) {
	cells, keys := bytesOf(leaf(short("a", "x"), short("b", "y"))), bytesOf(inner(3, "m", "n"))
	failing(t, []bad{
		{"three cells told", "\x01\x03" + cells[2:], fault{api.ErrShort, 10}},
		{"255 cells told", "\x01\xff" + cells[2:], fault{api.ErrShort, 10}},
		{"one cell told", "\x01\x01" + cells[2:], fault{api.ErrLong, 6}},
		{"a byte left", cells + "\x00", fault{api.ErrLong, 10}},
		{"two bytes left", cells + "\x01c", fault{api.ErrLong, 10}},
		{"three keys told", "\x02\x03" + keys[2:], fault{api.ErrShort, 12}},
		{"255 keys told", "\x02\xff" + keys[2:], fault{api.ErrShort, 12}},
		{"one key told", "\x02\x01" + keys[2:], fault{api.ErrLong, 8}},
		{"a byte left of Keys", keys + "\x00", fault{api.ErrLong, 12}},
		{"a Kid left", keys + "\x00\x07", fault{api.ErrLong, 12}},
	})
}

// P11.2: lengths of keys and values, of the first cell and of a second one: what is read, and is none, is told at the cell.
func TestGetLengths(t *testing.T) {
	ahead := text("A") + text("")
	for _, g := range []struct{ head, rest string }{{"\x01\x01", ""}, {"\x01\x02" + ahead, ""}, {"\x01\x02", text("z") + "\x00"}} {
		at := len(g.head)
		for _, end := range []string{text("x"), "\xff\x00\x07\x01\x2c"} {
			reads(t, "a key of 1", g.head+text("x")+end+g.rest)
			reads(t, "a key of 40", g.head+text(x(40))+end+g.rest)
			failing(t, []bad{
				{"a key of 0", g.head + text("") + end + g.rest, fault{api.ErrArg, at}},
				{"a key of 41", g.head + text(x(41)) + end + g.rest, fault{api.ErrArg, at}},
				{"a key of 200", g.head + text(x(200)) + end + g.rest, fault{api.ErrArg, at}},
				{"a key of 254 that is cut", g.head + "\xfe" + x(200) + end, fault{api.ErrShort, at}},
				{"a key of 255 that is cut", g.head + "\xff" + x(200) + end, fault{api.ErrShort, at}},
				{"a key of 41 that is cut", g.head + "\x29" + x(40), fault{api.ErrShort, at}},
				{"a key of 0, then no value", g.head + text(""), fault{api.ErrShort, at + 1}},
				{"a key of 41, then no value", g.head + text(x(41)), fault{api.ErrShort, at + 42}},
				{"a key of 41, then a value that is cut", g.head + text(x(41)) + "\x28" + x(39), fault{api.ErrShort, at + 42}},
				{"a key of 41, then a First that is cut", g.head + text(x(41)) + "\xff\x00", fault{api.ErrShort, at + 43}},
				{"a key of 0, then a Long that is cut", g.head + text("") + "\xff\x00\x07\x01", fault{api.ErrShort, at + 4}},
			})
		}
		reads(t, "a value of 0", g.head+text("x")+text("")+g.rest)
		reads(t, "a value of 40", g.head+text("x")+text(x(40))+g.rest)
		failing(t, []bad{
			{"a value of 41", g.head + text("x") + text(x(41)) + g.rest, fault{api.ErrArg, at}},
			{"a value of 220", g.head + text("x") + text(x(220)) + g.rest, fault{api.ErrArg, at}},
			{"a value of 40 that is cut", g.head + text("x") + "\x28" + x(39), fault{api.ErrShort, at + 2}},
			{"a value of 41 that is cut", g.head + text("x") + "\x29" + x(40), fault{api.ErrShort, at + 2}},
			{"a value of 254", g.head + text("x") + "\xfe" + x(220), fault{api.ErrShort, at + 2}},
			{"a value's 255 alone", g.head + text("x") + "\xff", fault{api.ErrShort, at + 3}},
		})
	}
}

// P11.2: Firsts and Longs that may be, and such that may not: also those by which a cell would be one without a longer value.
func TestGetLonger(t *testing.T) {
	numbers := []int{0, 1, 7, 40, 41, 42, 255, 256, 300, 960, 961, 1024, 2000, 2001, 1<<16 - 1}
	for _, first := range numbers {
		for _, long := range numbers {
			for _, head := range []string{"\x01\x01", "\x01\x02" + text("A") + text("v")} {
				s := head + text("k") + "\xff" + two(first) + two(long)
				reads(t, "longer", s)
				_, err := node.Get(s)
				if isGood := 1 <= first && first <= 960 && 41 <= long && long <= 2000; isGood != (err == nil) {
					t.Errorf("First %d, Long %d: %v", first, long, err)
				}
				if err != nil {
					isFault(t, "longer", err, fault{api.ErrArg, len(head)})
				}
			}
		}
	}
}

// P11.2: Kids that may not be, at each place, and all that may be.
func TestGetKids(t *testing.T) {
	for page := range 1 << 16 {
		n, err := node.Get("\x02\x01" + two(page) + "\x01m" + two(page))
		if page >= 1 && page <= 960 {
			if err != nil || !same(n, kids(page, page)) {
				t.Fatal(page, n, err)
			}
			continue
		}
		isFault(t, "first", err, fault{api.ErrArg, 2})
		_, err = node.Get("\x02\x01\x00\x05\x01m" + two(page))
		isFault(t, "last", err, fault{api.ErrArg, 6})
		if t.Failed() {
			t.Fatal(page)
		}
	}
	failing(t, []bad{
		{"the second one of three", "\x02\x02\x00\x05\x01m\x00\x00\x01n\x00\x05", fault{api.ErrArg, 6}},
		{"both of two", "\x02\x01\x00\x00\x01m\x00\x00", fault{api.ErrArg, 2}},
		{"ahead of a key that is none", "\x02\x01\x03\xc1\x00\x00\x05", fault{api.ErrArg, 2}},
		{"ahead of what is cut", "\x02\x01\x03\xc1", fault{api.ErrArg, 2}},
	})
}

// P11.2: keys between Kids.
func TestGetKeys(t *testing.T) {
	head := "\x02\x01\x00\x03"
	for _, g := range []struct {
		head string
		rest string
	}{{head, "\x00\x04"}, {"\x02\x02\x00\x03\x01A\x00\x05", "\x00\x04"}, {head, ""}, {head, "\x00"}} {
		at := len(g.head)
		failing(t, []bad{
			{"a key of 0", g.head + text("") + g.rest, fault{api.ErrArg, at}},
			{"a key of 41", g.head + text(x(41)) + g.rest, fault{api.ErrArg, at}},
			{"a key of 200", g.head + text(x(200)) + g.rest, fault{api.ErrArg, at}},
			{"a key of 41 that is cut", g.head + "\x29" + x(40), fault{api.ErrShort, at}},
			{"a key of 254 that is cut", g.head + "\xfe" + x(200), fault{api.ErrShort, at}},
			{"a key of 255 that is cut", g.head + "\xff" + x(200), fault{api.ErrShort, at}},
		})
		reads(t, "a key of 1", g.head+text("m")+g.rest)
		reads(t, "a key of 40", g.head+text(x(40))+g.rest)
	}
}

// P11.2: a key that is not above the one ahead: behind what is read of its cell, and behind what may not be.
func TestGetOrder(t *testing.T) {
	head := "\x01\x02" + text("m") + text("v")
	keys := "\x02\x02\x00\x03\x01m\x00\x04"
	for _, key := range []string{"m", "l", "A", "\x00", "lzz"} {
		failing(t, []bad{
			{"a cell", head + text(key) + text("w"), fault{api.ErrOrder, 6}},
			{"a cell, then a byte left", head + text(key) + text("w") + "!", fault{api.ErrOrder, 6}},
			{"a longer one", head + text(key) + "\xff\x00\x07\x01\x2c", fault{api.ErrOrder, 6}},
			{"a cell and a value of 41", head + text(key) + text(x(41)), fault{api.ErrArg, 6}},
			{"a cell and a First 0", head + text(key) + "\xff\x00\x00\x01\x2c", fault{api.ErrArg, 6}},
			{"a cell and a First 0, a Long 0", head + text(key) + "\xff\x00\x00\x00\x00", fault{api.ErrArg, 6}},
			{"a cell and a Long 40", head + text(key) + "\xff\x00\x07\x00\x28", fault{api.ErrArg, 6}},
			{"a cell that is cut", head + text(key) + "\x02w", fault{api.ErrShort, 7 + len(key)}},
			{"a key", keys + text(key) + "\x00\x05", fault{api.ErrOrder, 8}},
			{"a key, then a Kid 0", keys + text(key) + "\x00\x00", fault{api.ErrOrder, 8}},
			{"a key, then nothing", keys + text(key), fault{api.ErrOrder, 8}},
		})
	}
	failing(t, []bad{
		{"a key of 41 below", head + text("l"+x(40)) + text("w"), fault{api.ErrArg, 6}},
		{"a key of 0 behind", head + text("") + text("w"), fault{api.ErrArg, 6}},
		{"a key of 41 below, between Kids", keys + text("l"+x(40)) + "\x00\x05", fault{api.ErrArg, 8}},
		{"a key of 0 between Kids", keys + text("") + "\x00\x05", fault{api.ErrArg, 8}},
		{"the third one", "\x01\x03" + text("a") + "\x00" + text("b") + "\x00" + text("b") + "\x00", fault{api.ErrOrder, 8}},
		{"the third one, above the first one", "\x01\x03" + text("a") + "\x00" + text("c") + "\x00" + text("b") + "\x00", fault{api.ErrOrder, 8}},
		{"128 ahead of 127", "\x01\x02" + text("\x80") + "\x00" + text("\x7f") + "\x00", fault{api.ErrOrder, 5}},
	})
	reads(t, "a key that begins as the one ahead", head+text("m\x00")+text("w"))
}

// P11.2: of several things that are wrong the first one that is met is told.
func TestGetFirst(t *testing.T) {
	failing(t, []bad{
		{"a value of 41, then a key of 0", "\x01\x02" + text("a") + text(x(41)) + "\x00\x00", fault{api.ErrArg, 2}},
		{"a key that falls, then one of 0", "\x01\x03" + text("b") + "\x00" + text("a") + "\x00" + "\x00\x00", fault{api.ErrOrder, 5}},
		{"a key of 0, then one that is cut", "\x01\x02\x00\x00\x05a", fault{api.ErrArg, 2}},
		{"a key of 0, then a byte left", "\x01\x01\x00\x00!", fault{api.ErrArg, 2}},
		{"a Kid 0, then a key that falls", "\x02\x02\x00\x03\x01b\x00\x00\x01a\x00\x05", fault{api.ErrArg, 6}},
		{"a key that falls, then a Kid 0", "\x02\x02\x00\x03\x01b\x00\x04\x01a\x00\x00", fault{api.ErrOrder, 8}},
		{"a Kid 0 last, then a byte left", "\x02\x01\x00\x03\x01b\x00\x00!", fault{api.ErrArg, 6}},
	})
}

// P11.2: each text of few bytes, of those that tell something.
func TestGetShortTexts(t *testing.T) {
	bytes := []byte{0, 1, 2, 3, 'a', 255}
	var all func(s string, most int)
	all = func(s string, most int) {
		reads(t, "a short text", s)
		if most > 0 && !t.Failed() {
			for _, b := range bytes {
				all(s+string([]byte{b}), most-1)
			}
		}
	}
	all("", 4)
	all("\x01\x01", 5)
	all("\x01\x02\x01\x02", 5)
	all("\x02\x01", 6)
	all("\x02\x02\x00\x03\x01", 5)
}
