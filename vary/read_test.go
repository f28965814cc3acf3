package vary_test

import (
	"errors"
	"math/rand"
	"slices"
	"strings"
	"testing"

	"foyer/api"
	"foyer/vary"
)

// isFault asks for a *api.Fault itself, by its number and its place, and for no fields beside it.
func isFault(t *testing.T, name, s string, code api.Errno, at int) {
	t.Helper()
	l, err := vary.Read(s)
	f, ok := err.(*api.Fault)
	if !ok || f == nil || f.Code != code || f.At != at || !errors.Is(err, code) {
		t.Errorf("%s: %v, %#v; not the fault %d at %d", name, l, err, code, at)
	}
	if len(l) != 0 {
		t.Errorf("%s: %v beside a fault", name, l)
	}
}

// P2.2: bytes of fields are read.
func TestRead(t *testing.T) {
	for _, g := range layings() {
		if l, err := vary.Read(g.bytes); !slices.Equal(l, g.fields) || err != nil {
			t.Errorf("%s: %v, %v", g.name, l, err)
		}
	}
}

// wrong is bytes of a field that can't be read, and why.
type wrong struct {
	name  string
	bytes string
	want  api.Errno
}

// wrongs are first fields; of each, what the chapter names first is told, though more is wrong.
func wrongs() []wrong {
	eight := raw(1, 2, 3, 4, 5, 6, 7, 8)
	return []wrong{
		{"first byte 0", raw(0, 0), api.ErrArg},
		{"first byte 0 alone", raw(0), api.ErrArg},
		{"first byte 1", raw(1, 0), api.ErrArg},
		{"first byte 1 alone", raw(1), api.ErrArg},
		{"first byte 128", raw(128, 0), api.ErrArg},
		{"first byte 128 alone", raw(128), api.ErrArg},
		{"first byte 129, a count of 9", raw(129, 9), api.ErrArg},
		{"first byte 255", raw(255, 1, 0), api.ErrArg},
		{"first byte 0, a first digit 0", raw(0, 1, 0), api.ErrArg},
		{"first byte 2 alone", raw(2), api.ErrShort},
		{"first byte 3 alone", raw(3), api.ErrShort},
		{"first byte 126 alone", raw(126), api.ErrShort},
		{"first byte 127 alone", raw(127), api.ErrShort},
		{"count 9, nothing behind", raw(2, 9), api.ErrForm},
		{"count 9, nine behind", raw(2, 9) + eight + "9", api.ErrForm},
		{"count 9, a first digit 0", raw(2, 9, 0), api.ErrForm},
		{"count 255", raw(2, 255) + long(300), api.ErrForm},
		{"count 9 of a text", raw(3, 9) + eight, api.ErrForm},
		{"count 1, none behind", raw(2, 1), api.ErrShort},
		{"count 8, seven behind", raw(2, 8) + eight[:7], api.ErrShort},
		{"count 2, a digit 0 behind", raw(2, 2, 0), api.ErrShort},
		{"count 2 of a text, a digit 0 behind", raw(3, 2, 0), api.ErrShort},
		{"count 8 of a text, seven 255 behind", raw(3, 8) + strings.Repeat("\xff", 7), api.ErrShort},
		{"example of a first digit 0", raw(2, 1, 0), api.ErrForm},
		{"a first digit 0 of two", raw(2, 2, 0, 7), api.ErrForm},
		{"a first digit 0 of eight", raw(2, 8, 0) + eight[:7], api.ErrForm},
		{"a first digit 0 of a text's length", raw(3, 1, 0), api.ErrForm},
		{"a first digit 0 ahead of a length", raw(3, 2, 0, 1, 'a'), api.ErrForm},
		{"a first digit 0 ahead of a great length", raw(3, 3, 0, 255, 255), api.ErrForm},
		{"length 2001, all there", raw(3, 2, 7, 0xd1) + long(2001), api.ErrLong},
		{"length 2001, none there", raw(3, 2, 7, 0xd1), api.ErrLong},
		{"length 2^16", raw(3, 3, 1, 0, 0) + long(1<<16), api.ErrLong},
		{"length 2^32 + 1", raw(3, 5, 1, 0, 0, 0, 1) + "a", api.ErrLong},
		{"length 2^63", raw(3, 8, 128, 0, 0, 0, 0, 0, 0, 0), api.ErrLong},
		{"length 2^64 - 1", raw(3, 8) + strings.Repeat("\xff", 8) + "a", api.ErrLong},
		{"example of a text cut", raw(3, 1, 5, 'a'), api.ErrShort},
		{"length 1, none there", raw(3, 1, 1), api.ErrShort},
		{"length 2000, 1999 there", raw(3, 2, 7, 0xd0) + long(1999), api.ErrShort},
	}
}

// P2.2: each fault of a first field is told at 0.
func TestReadFirstWrong(t *testing.T) {
	for _, g := range wrongs() {
		isFault(t, g.name, g.bytes, g.want, 0)
	}
}

// P2.2: each fault of a later field is told where that field begins, not where it goes wrong.
func TestReadLaterWrong(t *testing.T) {
	whole, e := vary.Put(list(num(1, 300), text(2, "row"), num(3, 0)))
	if e != api.OK {
		t.Fatal(e)
	}
	for _, g := range wrongs() {
		later := []byte(g.bytes)
		if later[0] == 2 || later[0] == 3 {
			later[0] += 6 // the Tag 4, which rises
		}
		isFault(t, g.name, whole+string(later), g.want, len(whole))
	}
}

// P2.2: Tags that do not rise are told ahead of all that stands behind the first byte, and behind a first byte that may not be.
func TestReadOrder(t *testing.T) {
	five := raw(11, 1, 2, 'a', 'b')
	for _, head := range []byte{2, 3, 8, 9, 10, 11} {
		for _, rest := range []string{"", raw(0), raw(9), raw(1), raw(1, 0), raw(1, 5), raw(2, 7, 0xd1), raw(1, 1, 'x')} {
			isFault(t, "five and less", five+raw(head)+rest, api.ErrOrder, len(five))
		}
	}
	isFault(t, "example", raw(2, 0, 2, 0), api.ErrOrder, 2)
	isFault(t, "equal, then a wrong one", raw(2, 0, 2, 0, 0), api.ErrOrder, 2)
	isFault(t, "below one ahead of the last", raw(6, 0, 10, 0, 8, 0), api.ErrOrder, 4)
	isFault(t, "63 twice", raw(126, 0, 127, 0), api.ErrOrder, 2)
	for _, head := range []byte{0, 1, 128, 255} {
		isFault(t, "no Tag", five+raw(head), api.ErrArg, len(five))
	}
	if l, err := vary.Read(five + raw(12, 0)); err != nil || len(l) != 2 {
		t.Error(l, err)
	}
}

// P2.2: the first field of which something is wrong is told, whatever a later one has.
func TestReadFirstField(t *testing.T) {
	isFault(t, "digit 0, then no Tag", raw(2, 0, 4, 1, 0, 0), api.ErrForm, 2)
	isFault(t, "long, then no Tag", raw(2, 0, 5, 2, 7, 0xd1)+long(2001)+raw(0), api.ErrLong, 2)
	isFault(t, "no Tag, then equal ones", raw(0, 0, 2, 0, 2, 0), api.ErrArg, 0)
	isFault(t, "wrong ahead of the 33rd", zeros(1, 31)+raw(0, 0)+zeros(33, 1), api.ErrArg, 62)
}

// P2.2: the 33rd field is ErrLong, whatever it is; the 32nd is not.
func TestReadMany(t *testing.T) {
	whole := zeros(1, 32)
	if l, err := vary.Read(whole); err != nil || !slices.Equal(l, many(1, 32)) {
		t.Error(l, err)
	}
	for _, rest := range []string{zeros(33, 1), zeros(33, 31), raw(0), raw(1), raw(2, 0), raw(128), raw(66), raw(66, 9), raw(66, 1, 0), raw(67, 1, 5), long(3000)} {
		isFault(t, "33rd", whole+rest, api.ErrLong, len(whole))
	}
	isFault(t, "32nd cut", whole[:63], api.ErrShort, 62)
	wide := ""
	for i := range 32 {
		wide += raw(byte(2*i+3), 1, 1, 'w')
	}
	isFault(t, "33rd behind texts", wide+raw(126, 0), api.ErrLong, 128)
}

// P2.2: every first byte and every count, behind nothing and behind a field.
func TestReadHeads(t *testing.T) {
	for head := range 256 {
		for _, skip := range []string{"", raw(2, 0)} {
			s := skip + raw(byte(head), 0)
			tag := head / 2
			switch {
			case head < 2 || head > 127:
				isFault(t, "head", s, api.ErrArg, len(skip))
			case skip != "" && tag == 1:
				isFault(t, "head", s, api.ErrOrder, len(skip))
			default:
				l, err := vary.Read(s)
				want := api.Field{Tag: tag, IsText: head%2 == 1}
				if err != nil || len(l) == 0 || l[len(l)-1] != want {
					t.Errorf("head %d: %v, %v", head, l, err)
				}
			}
		}
	}
	for count := range 256 {
		s := raw(4, byte(count)) + strings.Repeat("\x01", count)
		if count > 8 {
			isFault(t, "count", s, api.ErrForm, 0)
		} else if l, err := vary.Read(s); err != nil || len(l) != 1 {
			t.Errorf("count %d: %v, %v", count, l, err)
		}
	}
}

// P2.2: fields that are cut anywhere are read up to a field's end, and else ErrShort where the cut field begins.
func TestReadCut(t *testing.T) {
	l := list(num(1, 0), text(2, "ab"), num(9, 1<<63), text(10, long(300)), num(63, 256))
	var ends []int
	for i := range len(l) + 1 {
		s, _ := vary.Put(l[:i])
		ends = append(ends, len(s))
	}
	whole, _ := vary.Put(l)
	for end := range len(whole) + 1 {
		if i, ok := slices.BinarySearch(ends, end); !ok {
			isFault(t, "cut", whole[:end], api.ErrShort, ends[i-1])
		} else if got, err := vary.Read(whole[:end]); err != nil || !slices.Equal(got, l[:i]) {
			t.Errorf("cut at %d: %v, %v", end, got, err)
		}
	}
}

// P2.3: the first field of that Tag, in whatever list.
func TestFind(t *testing.T) {
	l := list(num(1, 5), text(2, "ab"), num(63, 0), text(2, "later"), num(0, 9), num(-4, 8), mixed(70, 7))
	for _, want := range list(l[0], l[1], l[2], l[4], l[5], l[6]) {
		if f, ok := vary.Find(l, want.Tag); f != want || !ok {
			t.Errorf("Tag %d: %v, %v", want.Tag, f, ok)
		}
	}
	for _, tag := range []int{3, 62, 64, -1, 1 << 40} {
		if f, ok := vary.Find(l, tag); f != (api.Field{}) || ok {
			t.Errorf("Tag %d: %v, %v", tag, f, ok)
		}
	}
	for _, none := range [][]api.Field{nil, {}} {
		if f, ok := vary.Find(none, 0); f != (api.Field{}) || ok {
			t.Errorf("in none: %v, %v", f, ok)
		}
	}
}

// P2.3: a list is not changed, and what is found is a field of its own.
func TestFindLeaves(t *testing.T) {
	l := list(num(1, 5), text(2, "ab"))
	f, _ := vary.Find(l, 2)
	f.S, f.Tag = "other", 3
	if !slices.Equal(l, list(num(1, 5), text(2, "ab"))) {
		t.Error(l)
	}
}

// P2.4: every number of one and two bytes, and each power of two and its neighbours, come back.
func TestNumbersBack(t *testing.T) {
	try := func(n uint64) {
		l := list(num(2, n), text(3, "behind"))
		s, e := vary.Put(l)
		got, err := vary.Read(s)
		if e != api.OK || err != nil || !slices.Equal(got, l) {
			t.Errorf("%d: %x, %d; %v, %v", n, s, e, got, err)
		}
	}
	for n := range 1 << 16 {
		try(uint64(n))
	}
	for i := range 64 {
		try(1<<i - 1)
		try(1 << i)
		try(1<<i + 1)
	}
}

// P2.4: a text of every length up to the most comes back.
func TestTextsBack(t *testing.T) {
	for size := range 2001 {
		l := list(text(1, long(size)), num(2, 7))
		s, e := vary.Put(l)
		got, err := vary.Read(s)
		if e != api.OK || err != nil || !slices.Equal(got, l) {
			t.Fatalf("%d bytes: %d, %v", size, e, err)
		}
	}
}

// P2.4: behind whole fields others can be laid, whose Tags are above, wherever the list is parted.
func TestLaidBehind(t *testing.T) {
	l := list(text(1, ""), num(2, 70000), text(5, "five"), num(9, 0), text(63, long(400)))
	whole, _ := vary.Put(l)
	for i := range len(l) + 1 {
		low, e := vary.Put(l[:i])
		high, bad := vary.Put(l[i:])
		if e != api.OK || bad != api.OK || low+high != whole {
			t.Errorf("parted at %d: %x and %x", i, low, high)
		}
		if got, err := vary.Read(low + high); err != nil || !slices.Equal(got, l) {
			t.Errorf("parted at %d: %v, %v", i, got, err)
		}
		if i > 0 && i < len(l) {
			isFault(t, "the wrong way round", high+low, api.ErrOrder, len(high))
		}
	}
}

// R5: what two reads answer are lists of their own.
func TestReadAnswersNew(t *testing.T) {
	for _, g := range layings() {
		one, _ := vary.Read(g.bytes)
		two, _ := vary.Read(g.bytes)
		clear(two[:cap(two)])
		if !slices.Equal(one, g.fields) {
			t.Errorf("%s: shares its memory", g.name)
		}
	}
}

// plainRead reads by P2.2's words, one after the other, over s by its places.
func plainRead(s string) (l []api.Field, code api.Errno, at int) {
	ahead := byte(0)
	for at < len(s) {
		if len(l) == 32 {
			return nil, api.ErrLong, at
		}
		if s[at] < 2 || s[at] > 127 {
			return nil, api.ErrArg, at
		}
		if s[at]>>1 <= ahead {
			return nil, api.ErrOrder, at
		}
		if at+1 == len(s) {
			return nil, api.ErrShort, at
		}
		if s[at+1] > 8 {
			return nil, api.ErrForm, at
		}
		end := at + 2 + int(s[at+1])
		if end > len(s) {
			return nil, api.ErrShort, at
		}
		n := uint64(0)
		for i := at + 2; i < end; i++ {
			if i == at+2 && s[i] == 0 {
				return nil, api.ErrForm, at
			}
			n = n*256 + uint64(s[i])
		}
		ahead = s[at] >> 1
		if s[at]&1 == 0 {
			l, at = append(l, num(int(ahead), n)), end
			continue
		}
		if n > 2000 {
			return nil, api.ErrLong, at
		}
		if end+int(n) > len(s) {
			return nil, api.ErrShort, at
		}
		l, at = append(l, text(int(ahead), s[end:end+int(n)])), end+int(n)
	}
	return l, api.OK, 0
}

// agrees holds Read against the plain one, and what was read against its bytes.
func agrees(t *testing.T, s string) {
	t.Helper()
	want, code, at := plainRead(s)
	if code != api.OK {
		isFault(t, "any bytes", s, code, at)
		return
	}
	l, err := vary.Read(s)
	if err != nil || !slices.Equal(l, want) {
		t.Fatalf("%x: %v, %v; not %v", s, l, err, want)
	}
	if back, e := vary.Put(l); back != s || e != api.OK {
		t.Fatalf("%x is read, and laid as %x, %d", s, back, e)
	}
}

// P2.2, P2.4: all short rows of bytes that say something are read by the promise's words, and put back just so.
func TestReadAllShort(t *testing.T) {
	some := []byte{0, 1, 2, 3, 4, 5, 9, 126, 127, 128}
	rows := []string{""}
	for range 5 {
		var next []string
		for _, s := range rows {
			agrees(t, s)
			for _, b := range some {
				next = append(next, s+raw(b))
			}
		}
		rows = next
	}
	for _, s := range rows {
		agrees(t, s)
	}
}

// P2.2, P2.4: fields whose bytes were changed, lost or doubled here and there are read by the promise's words.
func TestReadSpoiled(t *testing.T) {
	r := rand.New(rand.NewSource(2))
	for range 20000 {
		b := []byte(someFields(t, r))
		for range r.Intn(3) {
			if len(b) == 0 {
				break
			}
			at := r.Intn(len(b))
			switch r.Intn(4) {
			case 0:
				b[at] = byte(r.Intn(256))
			case 1:
				b[at] = byte(r.Intn(10))
			case 2:
				b = slices.Delete(b, at, at+1)
			case 3:
				b = slices.Insert(b, at, b[at])
			}
		}
		agrees(t, string(b))
	}
}

// someFields are the bytes of fields that may be, of which some are long.
func someFields(t *testing.T, r *rand.Rand) string {
	t.Helper()
	var l []api.Field
	for tag := 1 + r.Intn(9); tag <= 63 && len(l) < 32; tag += 1 + r.Intn(9) {
		if r.Intn(2) == 0 {
			l = append(l, num(tag, r.Uint64()>>r.Intn(65)))
		} else if r.Intn(8) == 0 {
			l = append(l, text(tag, long(1990+r.Intn(11))))
		} else {
			l = append(l, text(tag, long(r.Intn(12))))
		}
	}
	s, e := vary.Put(l)
	got, err := vary.Read(s)
	if e != api.OK || err != nil || !slices.Equal(got, l) {
		t.Fatalf("%v: %d, %v, %v", l, e, got, err)
	}
	return s
}
