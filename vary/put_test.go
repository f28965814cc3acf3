package vary_test

import (
	"math"
	"slices"
	"strings"
	"testing"

	"foyer/api"
	"foyer/vary"
)

func num(tag int, n uint64) api.Field     { return api.Field{Tag: tag, N: n} }
func text(tag int, s string) api.Field    { return api.Field{Tag: tag, IsText: true, S: s} }
func list(l ...api.Field) []api.Field     { return l }
func long(n int) string                   { return strings.Repeat("t", n) }
func raw(b ...byte) string                { return string(b) }
func mixed(tag int, n uint64) api.Field   { return api.Field{Tag: tag, N: n, S: "s"} }
func numText(tag int, n uint64) api.Field { return api.Field{Tag: tag, IsText: true, N: n, S: "s"} }

// many are so many numbers 0, of the Tags from first on.
func many(first, count int) []api.Field {
	var l []api.Field
	for i := range count {
		l = append(l, num(first+i, 0))
	}
	return l
}

// laid is a list of fields, and their bytes.
type laid struct {
	name   string
	fields []api.Field
	bytes  string
}

// layings are fields that may be, ordinary ones and those at the edges.
func layings() []laid {
	most := uint64(math.MaxUint64)
	return []laid{
		{"example", list(num(1, 0), text(2, "ab"), num(63, 256)), raw(2, 0, 5, 1, 2, 'a', 'b', 0x7e, 2, 1, 0)},
		{"nil", nil, ""},
		{"none", list(), ""},
		{"1 0", list(num(1, 0)), raw(2, 0)},
		{"1 1", list(num(1, 1)), raw(2, 1, 1)},
		{"63 0", list(num(63, 0)), raw(126, 0)},
		{"127", list(num(9, 127)), raw(18, 1, 127)},
		{"128", list(num(9, 128)), raw(18, 1, 128)},
		{"255", list(num(9, 255)), raw(18, 1, 255)},
		{"256", list(num(9, 256)), raw(18, 2, 1, 0)},
		{"2^16 - 1", list(num(9, 1<<16-1)), raw(18, 2, 255, 255)},
		{"2^16", list(num(9, 1<<16)), raw(18, 3, 1, 0, 0)},
		{"2^24 - 1", list(num(9, 1<<24-1)), raw(18, 3, 255, 255, 255)},
		{"2^24", list(num(9, 1<<24)), raw(18, 4, 1, 0, 0, 0)},
		{"2^32", list(num(9, 1<<32)), raw(18, 5, 1, 0, 0, 0, 0)},
		{"2^40", list(num(9, 1<<40)), raw(18, 6, 1, 0, 0, 0, 0, 0)},
		{"2^48", list(num(9, 1<<48)), raw(18, 7, 1, 0, 0, 0, 0, 0, 0)},
		{"2^56 - 1", list(num(9, 1<<56-1)), raw(18, 7, 255, 255, 255, 255, 255, 255, 255)},
		{"2^56", list(num(9, 1<<56)), raw(18, 8, 1, 0, 0, 0, 0, 0, 0, 0)},
		{"2^63", list(num(9, 1<<63)), raw(18, 8, 128, 0, 0, 0, 0, 0, 0, 0)},
		{"digits", list(num(9, 0x0102030405060708)), raw(18, 8, 1, 2, 3, 4, 5, 6, 7, 8)},
		{"greatest", list(num(9, most)), raw(18, 8, 255, 255, 255, 255, 255, 255, 255, 255)},
		{"empty text", list(text(1, "")), raw(3, 0)},
		{"63 text", list(text(63, "z")), raw(127, 1, 1, 'z')},
		{"any bytes", list(text(4, "\x00\xff\x80")), raw(9, 1, 3, 0, 255, 128)},
		{"text 255", list(text(4, long(255))), raw(9, 1, 255) + long(255)},
		{"text 256", list(text(4, long(256))), raw(9, 2, 1, 0) + long(256)},
		{"text 1999", list(text(4, long(1999))), raw(9, 2, 7, 0xcf) + long(1999)},
		{"text 2000", list(text(4, long(2000))), raw(9, 2, 7, 0xd0) + long(2000)},
		{"both kinds", list(text(1, "a"), num(2, 3), text(3, ""), num(63, 0)), raw(3, 1, 1, 'a', 4, 1, 3, 7, 0, 126, 0)},
		{"two 2000", list(text(62, long(2000)), text(63, long(2000))), raw(125, 2, 7, 0xd0) + long(2000) + raw(127, 2, 7, 0xd0) + long(2000)},
		{"32 low", many(1, 32), zeros(1, 32)},
		{"32 high", many(32, 32), zeros(32, 32)},
	}
}

// zeros are the bytes of so many numbers 0, of the Tags from first on.
func zeros(first, count int) string {
	var b []byte
	for i := range count {
		b = append(b, byte(2*(first+i)), 0)
	}
	return string(b)
}

// P2.1: fields that may be, in order, have their bytes.
func TestPut(t *testing.T) {
	for _, g := range layings() {
		if s, e := vary.Put(g.fields); s != g.bytes || e != api.OK {
			t.Errorf("%s: %x, %d; not %x", g.name, s, e, g.bytes)
		}
	}
}

// P2.1: a list of 32 fields is as long as may be, with the longest texts too.
func TestPutGreatest(t *testing.T) {
	var l []api.Field
	want := ""
	for i := range 32 {
		l = append(l, text(2*i+1, long(2000)))
		want += raw(byte(4*i+3), 2, 7, 0xd0) + long(2000)
	}
	if s, e := vary.Put(l); s != want || e != api.OK {
		t.Errorf("%d bytes, %d", len(s), e)
	}
	got, err := vary.Read(want)
	if err != nil || !slices.Equal(got, l) {
		t.Errorf("%d fields, %v", len(got), err)
	}
}

// refusal is a list of fields that can't be laid, and why.
type refusal struct {
	name   string
	fields []api.Field
	want   api.Errno
}

func refusals() []refusal {
	return []refusal{
		{"example", list(num(2, 1), num(2, 1)), api.ErrOrder},
		{"Tag 0", list(num(0, 1)), api.ErrArg},
		{"Tag 0 text", list(text(0, "a")), api.ErrArg},
		{"Tag 64", list(num(64, 1)), api.ErrArg},
		{"Tag 64 text", list(text(64, "a")), api.ErrArg},
		{"Tag -1", list(num(-1, 0)), api.ErrArg},
		{"Tag 129", list(num(129, 0)), api.ErrArg},
		{"Tag 257", list(num(257, 0)), api.ErrArg},
		{"least Tag", list(num(math.MinInt, 0)), api.ErrArg},
		{"greatest Tag", list(num(math.MaxInt, 0)), api.ErrArg},
		{"zero field", list(api.Field{}), api.ErrArg},
		{"number with a text", list(api.Field{Tag: 1, S: "s"}), api.ErrArg},
		{"number and text", list(mixed(1, 5)), api.ErrArg},
		{"text with a number", list(numText(1, 5)), api.ErrArg},
		{"empty text with a number", list(api.Field{Tag: 1, IsText: true, N: 1}), api.ErrArg},
		{"second may not be", list(num(1, 0), num(64, 0)), api.ErrArg},
		{"third may not be", list(num(1, 0), num(2, 0), mixed(3, 0)), api.ErrArg},
		{"equal texts", list(text(5, "a"), text(5, "a")), api.ErrOrder},
		{"number and text of a Tag", list(num(5, 0), text(5, "")), api.ErrOrder},
		{"text and number of a Tag", list(text(5, ""), num(5, 0)), api.ErrOrder},
		{"falling", list(num(3, 0), num(2, 0)), api.ErrOrder},
		{"falling to one laid before the last", list(num(3, 0), num(5, 0), num(4, 0)), api.ErrOrder},
		{"equal at 63", list(num(63, 0), num(63, 0)), api.ErrOrder},
		{"text 2001", list(text(1, long(2001))), api.ErrLong},
		{"text 70000", list(text(1, long(70000))), api.ErrLong},
		{"second text 2001", list(text(1, long(2000)), text(2, long(2001))), api.ErrLong},
		{"33 fields", many(1, 33), api.ErrLong},
		{"63 fields", many(1, 63), api.ErrLong},
		{"1000 fields", many(1, 1000), api.ErrLong},
	}
}

// P2.1: what can't be laid is an error, and no bytes beside it.
func TestPutRefuses(t *testing.T) {
	for _, g := range refusals() {
		if s, e := vary.Put(g.fields); s != "" || e != g.want {
			t.Errorf("%s: %x, %d; not %d", g.name, s, e, g.want)
		}
	}
}

// P2.1: of several errors the first one named is told: more than 32 ahead of all, then field by field.
func TestPutOrder(t *testing.T) {
	for _, g := range []refusal{
		{"33 and Tag 0", many(0, 33), api.ErrLong},
		{"33 equal ones", slices.Repeat(list(num(1, 0)), 33), api.ErrLong},
		{"33 that may not be", slices.Repeat(list(mixed(64, 1)), 33), api.ErrLong},
		{"may not be, equal", list(num(2, 0), mixed(2, 1)), api.ErrArg},
		{"may not be, falling", list(num(2, 0), num(0, 0)), api.ErrArg},
		{"may not be, long", list(api.Field{Tag: 1, IsText: true, N: 1, S: long(2001)}), api.ErrArg},
		{"number with a long text", list(api.Field{Tag: 1, S: long(2001)}), api.ErrArg},
		{"Tag 64, long", list(text(64, long(2001))), api.ErrArg},
		{"falling, long", list(num(2, 0), text(1, long(2001))), api.ErrOrder},
		{"equal, long", list(num(2, 0), text(2, long(2001))), api.ErrOrder},
		{"first long, second may not be", list(text(1, long(2001)), num(64, 0)), api.ErrLong},
		{"first long, second falling", list(text(9, long(2001)), num(8, 0)), api.ErrLong},
		{"second falling, third may not be", list(num(2, 0), num(1, 0), num(0, 0)), api.ErrOrder},
		{"second may not be, third falling", list(num(2, 0), num(64, 0), num(1, 0)), api.ErrArg},
		{"32 of which the last is falling", append(many(1, 31), num(1, 0)), api.ErrOrder},
		{"32 of which the last may not be", append(many(1, 31), num(64, 0)), api.ErrArg},
	} {
		if s, e := vary.Put(g.fields); s != "" || e != g.want {
			t.Errorf("%s: %x, %d; not %d", g.name, s, e, g.want)
		}
	}
}

// P2.1: every Tag by itself, below, in and above those that may be.
func TestPutTags(t *testing.T) {
	for tag := -70; tag <= 300; tag++ {
		want, e := raw(byte(2*tag+1), 1, 1, 'q'), api.OK
		if tag < 1 || tag > 63 {
			want, e = "", api.ErrArg
		}
		if s, got := vary.Put(list(text(tag, "q"))); s != want || got != e {
			t.Errorf("Tag %d: %x, %d", tag, s, got)
		}
	}
}

// R5: what is handed in is not changed, and its room not written into.
func TestPutLeaves(t *testing.T) {
	for _, g := range layings() {
		room := append(slices.Clone(g.fields), num(7, 7), num(7, 7))
		before := slices.Clone(room)
		s, _ := vary.Put(room[:len(g.fields)])
		if !slices.Equal(room, before) {
			t.Errorf("%s: changed", g.name)
		}
		clear(room)
		if s != g.bytes {
			t.Errorf("%s: the answer changed with the fields", g.name)
		}
	}
}
