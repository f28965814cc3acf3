package fate_test

import (
	"fmt"
	"math"
	"math/rand"
	"slices"
	"strings"
	"testing"

	"foyer/api"
	"foyer/fate"
)

// of is a sector's bytes, all alike.
func of(b byte) string { return strings.Repeat(string([]byte{b}), 256) }

// part is the first so many bytes of the one, and the rest of the other.
func part(first byte, n int, rest byte) string { return of(first)[:n] + of(rest)[n:] }

func write(sector int, b byte) api.Write { return api.Write{Sector: sector, Data: of(b)} }

// wantAfter asks for what comes of sectors, and that nothing that was handed in is changed.
func wantAfter(t *testing.T, name string, was []string, l []api.Write, f api.Fate, want ...string) {
	t.Helper()
	was2, l2, came2 := slices.Clone(was), slices.Clone(l), slices.Clone(f.Came)
	got := fate.After(was, l, f)
	if !slices.Equal(got, want) {
		t.Errorf("%s: %v, not %v", name, runs(got), runs(want))
	}
	if !slices.Equal(was, was2) || !slices.Equal(l, l2) || !slices.Equal(f.Came, came2) {
		t.Errorf("%s: what was handed in is changed", name)
	}
}

// runs tells sectors by their rows of like bytes, as sectors are too long to read.
func runs(l []string) [][]string {
	var all [][]string
	for _, s := range l {
		var one []string
		for from := 0; from < len(s); {
			to := from
			for to < len(s) && s[to] == s[from] {
				to++
			}
			one = append(one, fmt.Sprintf("%d*%q", to-from, s[from]))
			from = to
		}
		all = append(all, one)
	}
	return all
}

// P4.3: what came stands, in order; what did not come does not.
func TestAfter(t *testing.T) {
	abc := []string{of('a'), of('b'), of('c')}
	x, y, z := write(0, 'x'), write(1, 'y'), write(0, 'z')
	for _, g := range []struct {
		name string
		l    []api.Write
		f    api.Fate
		want []string
	}{
		{"no writes", nil, untorn(nil), abc},
		{"no writes, some came", nil, untorn(every(3)), abc},
		{"none came", []api.Write{x, y, z}, untorn(came(3)), abc},
		{"the first came", []api.Write{x, y, z}, untorn(came(3, 0)), []string{of('x'), of('b'), of('c')}},
		{"the second came", []api.Write{x, y, z}, untorn(came(3, 1)), []string{of('a'), of('y'), of('c')}},
		{"the third came", []api.Write{x, y, z}, untorn(came(3, 2)), []string{of('z'), of('b'), of('c')}},
		{"all came", []api.Write{x, y, z}, untorn(every(3)), []string{of('z'), of('y'), of('c')}},
		{"all came, the other way", []api.Write{z, y, x}, untorn(every(3)), []string{of('x'), of('y'), of('c')}},
		{"the last sector", []api.Write{write(2, 'w')}, untorn(every(1)), []string{of('a'), of('b'), of('w')}},
		{"the first one torn", []api.Write{x, y}, tornAt(every(2), 0, 100), []string{part('x', 100, 'a'), of('y'), of('c')}},
		{"the second one torn", []api.Write{x, y}, tornAt(every(2), 1, 1), []string{of('x'), part('y', 1, 'b'), of('c')}},
		{"torn, the other one did not come", []api.Write{x, y}, tornAt(came(2, 1), 1, 255), []string{of('a'), part('y', 255, 'b'), of('c')}},
		{"torn over one that came", []api.Write{x, z}, tornAt(every(2), 1, 9), []string{part('z', 9, 'x'), of('b'), of('c')}},
		{"torn over one that did not come", []api.Write{x, z}, tornAt(came(2, 1), 1, 9), []string{part('z', 9, 'a'), of('b'), of('c')}},
		{"a later write covers a torn one", []api.Write{x, z}, tornAt(every(2), 0, 9), []string{of('z'), of('b'), of('c')}},
		{"a later write of another sector does not", []api.Write{x, y}, tornAt(every(2), 0, 9), []string{part('x', 9, 'a'), of('y'), of('c')}},
		{"a later write that did not come does not", []api.Write{x, z}, tornAt(came(2, 0), 0, 9), []string{part('x', 9, 'a'), of('b'), of('c')}},
	} {
		wantAfter(t, g.name, abc, g.l, g.f, g.want...)
	}
	wantAfter(t, "example", []string{of('a')}, []api.Write{write(0, 'b'), write(0, 'c')}, tornAt(every(2), 1, 100), part('c', 100, 'b'))
	wantAfter(t, "no sectors", nil, []api.Write{x, y}, untorn(every(2)))
	wantAfter(t, "a zero fate", abc, []api.Write{x}, api.Fate{}, abc...)
}

// P4.3: At is taken from 0 to 256.
func TestAfterAt(t *testing.T) {
	for at := -3; at <= 260; at++ {
		n := min(max(at, 0), 256)
		wantAfter(t, "torn", []string{of('a')}, []api.Write{write(0, 'b')}, tornAt(every(1), 0, at), part('b', n, 'a'))
	}
	for _, at := range []int{math.MinInt, -257, 257, 513, math.MaxInt} {
		n := 0
		if at > 0 {
			n = 256
		}
		l := []api.Write{write(0, 'b'), write(0, 'c')}
		wantAfter(t, "torn", []string{of('a')}, l, tornAt(every(2), 1, at), part('c', n, 'b'))
	}
}

// P4.3: the first bytes are those at the sector's beginning, byte by byte.
func TestAfterTornBytes(t *testing.T) {
	var had, data []byte
	for i := range 256 {
		had, data = append(had, byte(i)), append(data, byte(i*7+3))
	}
	for at := range 257 {
		want := string(data[:at]) + string(had[at:])
		wantAfter(t, "bytes", []string{string(had)}, []api.Write{{Sector: 0, Data: string(data)}}, tornAt(every(1), 0, at), want)
	}
}

// P4.3: a torn one that did not come, or that is no write, tears none.
func TestAfterTornNone(t *testing.T) {
	was := []string{of('a'), of('b')}
	l := []api.Write{write(0, 'x'), write(1, 'y')}
	for _, torn := range []int{-1, -2, math.MinInt, 2, 3, math.MaxInt} {
		wantAfter(t, "no write", was, l, tornAt(every(2), torn, 100), of('x'), of('y'))
	}
	wantAfter(t, "did not come", was, l, tornAt(came(2, 1), 0, 100), of('a'), of('y'))
	wantAfter(t, "did not come, the last one", was, l, tornAt(came(2, 0), 1, 100), of('x'), of('b'))
	wantAfter(t, "is lacking", was, l, tornAt(every(1), 1, 100), of('x'), of('b'))
	wantAfter(t, "is behind the writes", was, l, tornAt(every(5), 4, 100), of('x'), of('y'))
}

// P4.3: those that are lacking in Came did not come; those above the writes are none.
func TestAfterCame(t *testing.T) {
	was := []string{of('a'), of('b'), of('c')}
	l := []api.Write{write(0, 'x'), write(1, 'y'), write(2, 'z')}
	done := []string{of('x'), of('y'), of('z')}
	for n := range 8 {
		want := slices.Concat(done[:min(n, 3)], was[min(n, 3):])
		wantAfter(t, "so many came", was, l, untorn(every(n)), want...)
	}
	wantAfter(t, "5000 came", was, l, untorn(every(5000)), done...)
	wantAfter(t, "torn, the others lacking", was, l, tornAt(came(2, 1), 1, 4), of('a'), part('y', 4, 'b'), of('c'))
	wantAfter(t, "torn, more than there are", was, l, tornAt(came(9, 2, 7), 2, 4), of('a'), of('b'), part('z', 4, 'c'))
}

// P4.3: more writes than choices can tell are taken as they are.
func TestAfterMany(t *testing.T) {
	was := make([]string, 7)
	l := make([]api.Write, 5000)
	for i := range l {
		l[i] = write(i%7, byte(i*11))
	}
	want := make([]string, 7)
	for i := range l {
		want[i%7] = l[i].Data
	}
	wantAfter(t, "5000 writes", was, l, untorn(every(5000)), want...)
	want[4999%7] = l[4999].Data[:50] + l[4999-7].Data[50:]
	wantAfter(t, "5000 writes, the last one torn", was, l, tornAt(every(5000), 4999, 50), want...)
}

// P4.3: a write of no sector, or not of 256 bytes, counts for nothing, torn or not; the others do.
func TestAfterNothing(t *testing.T) {
	was := []string{of('a'), of('b')}
	for _, w := range []api.Write{
		write(-1, 'x'), write(-2, 'x'), write(math.MinInt, 'x'), write(2, 'x'), write(3, 'x'), write(math.MaxInt, 'x'),
		{Sector: 0}, {Sector: 0, Data: "x"}, {Sector: 0, Data: of('x')[1:]}, {Sector: 0, Data: of('x') + "x"}, {Sector: 1, Data: of('x') + of('x')},
		{Sector: -1, Data: "x"}, {Sector: 2, Data: of('x') + "x"},
	} {
		for _, f := range []api.Fate{untorn(every(1)), tornAt(every(1), 0, 0), tornAt(every(1), 0, 1), tornAt(every(1), 0, 255), tornAt(every(1), 0, 256), tornAt(every(1), 0, 300)} {
			wantAfter(t, "alone", was, []api.Write{w}, f, was...)
		}
		l := []api.Write{write(0, 'y'), w, write(1, 'z')}
		wantAfter(t, "between others", was, l, untorn(every(3)), of('y'), of('z'))
		wantAfter(t, "torn between others", was, l, tornAt(every(3), 1, 7), of('y'), of('z'))
		wantAfter(t, "ahead of a torn one", was, l, tornAt(every(3), 2, 7), of('y'), part('z', 7, 'b'))
		wantAfter(t, "behind a torn one", was, l, tornAt(every(3), 0, 7), part('y', 7, 'a'), of('z'))
	}
}

// R1: sectors that are no sectors by their lengths make no call panic; what came wholly stands wholly.
func TestAfterOddSectors(t *testing.T) {
	for _, n := range []int{0, 1, 99, 100, 101, 255, 257, 600} {
		odd := strings.Repeat("a", n)
		wantAfter(t, "odd, whole", []string{odd}, []api.Write{write(0, 'b')}, untorn(every(1)), of('b'))
		wantAfter(t, "odd, none came", []string{odd}, []api.Write{write(0, 'b')}, untorn(came(1)), odd)
		want := of('b')[:100] + odd[min(n, 100):]
		wantAfter(t, "odd, torn", []string{odd}, []api.Write{write(0, 'b')}, tornAt(every(1), 0, 100), want)
	}
}

// plainAfter is the chapter's words, byte by byte.
func plainAfter(was []string, l []api.Write, f api.Fate) []string {
	var now [][]byte
	for _, s := range was {
		now = append(now, []byte(s))
	}
	for i, w := range l {
		if i >= len(f.Came) || !f.Came[i] || w.Sector < 0 || w.Sector >= len(was) || len(w.Data) != 256 {
			continue
		}
		for n := range 256 {
			if i != f.Torn || n < f.At {
				now[w.Sector][n] = w.Data[n]
			}
		}
	}
	var out []string
	for _, b := range now {
		out = append(out, string(b))
	}
	return out
}

// mostly is a write of some sector, now and then of none, now and then too short or too long.
func mostly(r *rand.Rand, sectors int) api.Write {
	size := 256
	if r.Intn(10) == 0 {
		size += r.Intn(3) - 1
	}
	b := make([]byte, size)
	r.Read(b)
	return api.Write{Sector: r.Intn(sectors+2) - 1, Data: string(b)}
}

// P4.3: sectors, writes and fates of all sorts, by the chapter's words.
func TestAfterAny(t *testing.T) {
	r := rand.New(rand.NewSource(43))
	for range 5000 {
		was := make([]string, r.Intn(5))
		for i := range was {
			was[i] = of(byte(r.Intn(256)))
		}
		l := make([]api.Write, r.Intn(9))
		for i := range l {
			l[i] = mostly(r, len(was))
		}
		f := api.Fate{Came: make([]bool, r.Intn(11)), Torn: r.Intn(12) - 2, At: r.Intn(270) - 6}
		for i := range f.Came {
			f.Came[i] = r.Intn(3) > 0
		}
		wantAfter(t, "any", was, l, f, plainAfter(was, l, f)...)
	}
}

// settled tells whether a sector is what it was, or what was written to it, wholly.
func settled(now string, sector int, had string, l []api.Write) bool {
	if now == had {
		return true
	}
	for _, w := range l {
		if w.Sector == sector && w.Data == now {
			return true
		}
	}
	return false
}

// parted tells whether a sector's first bytes are those of a write to it, and the others those of one ahead, or of what it was.
func parted(now string, sector int, had string, l []api.Write) bool {
	ahead := []string{had}
	for _, w := range l {
		if w.Sector != sector {
			continue
		}
		for _, a := range ahead {
			for at := range 257 {
				if now == w.Data[:at]+a[at:] {
					return true
				}
			}
		}
		ahead = append(ahead, w.Data)
	}
	return false
}

// P4.4: behind every fate of some writes, read of choices, one sector at most is parted, and that by a torn write.
func TestAfterSettles(t *testing.T) {
	was := []string{of('a'), of('b'), of('c')}
	l := []api.Write{write(0, 'p'), write(2, 'q'), write(0, 'r'), write(1, 's'), write(0, 't')}
	for bits := range 32 {
		for x := range 6 {
			for _, at := range []byte{0, 1, 128, 255} {
				f := fate.Read([]byte{byte(bits), byte(x), 0, at}, len(l))
				odd := 0
				for i, now := range fate.After(was, l, f) {
					if settled(now, i, was[i], l) {
						continue
					}
					odd++
					if f.Torn < 0 || l[f.Torn].Sector != i || !parted(now, i, was[i], l) {
						t.Errorf("bits %d, %d, %d: sector %d: %v", bits, x, at, i, runs([]string{now}))
					}
				}
				if odd > 1 {
					t.Errorf("bits %d, %d, %d: %d sectors parted", bits, x, at, odd)
				}
			}
		}
	}
}

// P4.1, P4.3: a whole fate is all writes in their order.
func TestAfterWhole(t *testing.T) {
	was := []string{of('a'), of('b')}
	l := []api.Write{write(1, 'x'), write(0, 'y'), write(1, 'z')}
	wantAfter(t, "whole", was, l, fate.Whole(len(l)), of('y'), of('z'))
	wantAfter(t, "none", was, l, fate.Read(nil, len(l)), was...)
}

// R5, R6: what is answered is new, and the same again.
func TestAfterLeaves(t *testing.T) {
	was := append(make([]string, 0, 8), of('a'), of('b'))
	l := []api.Write{write(0, 'x')}
	for _, f := range []api.Fate{untorn(every(1)), untorn(nil), tornAt(every(1), 0, 9)} {
		first, second := fate.After(was, l, f), fate.After(was, l, f)
		if !slices.Equal(first, second) {
			t.Errorf("%v, then %v", runs(first), runs(second))
		}
		want := slices.Clone(second)
		clear(first[:cap(first)])
		if was[0] != of('a') || was[1] != of('b') || !slices.Equal(second, want) {
			t.Error("answers share memory with what was handed in, or with one another")
		}
	}
}
