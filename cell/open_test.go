package cell_test

import (
	"errors"
	"math/rand"
	"strings"
	"testing"

	"foyer/api"
	"foyer/cell"
)

// opens asks for the kind and the body that are opened.
func opens(t *testing.T, s string, kind int, body string) {
	t.Helper()
	k, b, err := cell.Open(s)
	if k != kind || b != body || err != nil {
		t.Fatalf("Open(% x): %d, % x, %v; not %d, % x", s, k, b, err, kind, body)
	}
}

// noOpen asks that nothing is opened, why, and at which byte.
func noOpen(t *testing.T, s string, code api.Errno, at int) {
	t.Helper()
	k, b, err := cell.Open(s)
	if f, ok := err.(*api.Fault); !ok || f == nil || f.Code != code || f.At != at || !errors.Is(err, code) {
		t.Fatalf("Open(%d bytes % x): %#v, not %d at %d", len(s), s[:min(len(s), size)], err, code, at)
	}
	if k != 0 || b != "" {
		t.Fatalf("Open(%d bytes): %d and % x beside a fault", len(s), k, b)
	}
}

// with is s, in which the byte at that place is another one; its sum is not mended.
func with(s string, at int, by byte) string {
	b := []byte(s)
	b[at] = by
	return string(b)
}

// The chapter's examples of Open.
func TestOpenExamples(t *testing.T) {
	opens(t, "\x02\x02ab"+strings.Repeat("\x00", 248)+"\xc2\xf6\x00\xc8", 2, "ab")
	noOpen(t, strings.Repeat("\x00", 256), api.ErrSum, sumAt)
}

// P7.2, P7.3: what was sealed is opened as it was.
func TestOpenSealed(t *testing.T) {
	for kind := 1; kind <= 255; kind++ {
		for _, long := range lengths {
			for _, body := range bodies(long) {
				opens(t, seals(t, kind, body), kind, body)
			}
		}
	}
	for long := range most + 1 {
		for _, body := range bodies(long) {
			opens(t, seals(t, 1+long%255, body), 1+long%255, body)
		}
	}
}

// P7.2: what has not 256 bytes is told first, whatever it is.
func TestOpenSize(t *testing.T) {
	whole := seals(t, 2, "ab")
	bad := with(whole, 255, 0)
	for _, long := range []int{0, 1, 2, 4, 128, 251, 252, 255, 257, 260, 511, 512, 65536} {
		for _, of := range []string{whole, bad, "\x00", "\xff"} {
			s := strings.Repeat(of, long/len(of)+1)
			noOpen(t, s[:long], api.ErrArg, 0)
		}
	}
	noOpen(t, "", api.ErrArg, 0)
	noOpen(t, whole[:255], api.ErrArg, 0)
	noOpen(t, whole+"\x00", api.ErrArg, 0)
	noOpen(t, whole+whole, api.ErrArg, 0)
	// A sector that lost its last byte, a nought, would be whole again if noughts were put in for what it lacks.
	for b := range 256 {
		if s := seals(t, 1, string([]byte{byte(b)})); s[255] == 0 {
			noOpen(t, s[:255], api.ErrArg, 0)
		}
	}
}

// P7.2: another sum is told ahead of all else that may be wrong.
func TestOpenSum(t *testing.T) {
	for _, s := range []string{
		laid(2, 2, "ab"),
		laid(0, 2, "ab"),
		laid(2, 241, "ab"),
		laid(2, 255, "ab"),
		laid(0, 255, "ab"),
		laid(2, 2, "abc"),
		laid(0, 0, strings.Repeat("z", 250)),
		laid(0, 241, strings.Repeat("z", 250)),
	} {
		for at := sumAt; at < size; at++ {
			for _, by := range []byte{1, 2, 16, 128, 255} {
				noOpen(t, with(s, at, s[at]^by), api.ErrSum, sumAt)
			}
		}
		noOpen(t, s[:sumAt]+"\x00\x00\x00\x00", api.ErrSum, sumAt)
		noOpen(t, s[:sumAt]+"\x00\x00\x00\x01", api.ErrSum, sumAt)
		noOpen(t, s[:sumAt]+"\xff\xff\xff\xff", api.ErrSum, sumAt)
		noOpen(t, s[:sumAt]+s[254:]+s[252:254], api.ErrSum, sumAt)
		noOpen(t, s[:sumAt]+string([]byte{s[255], s[254], s[253], s[252]}), api.ErrSum, sumAt)
	}
	noOpen(t, strings.Repeat("\xff", 256), api.ErrSum, sumAt)
}

// P7.2: a sum whose half is M more is another one, though as much is left of it by M.
func TestOpenSumByM(t *testing.T) {
	r := rand.New(rand.NewSource(7))
	body := make([]byte, most)
	for found := 0; found < 3; {
		r.Read(body)
		s := seals(t, 5, string(body))
		high := int(s[252])*256 + int(s[253])
		if high >= 15 {
			continue
		}
		found++
		high += 65521
		opens(t, s, 5, string(body))
		noOpen(t, with(with(s, 252, byte(high/256)), 253, byte(high%256)), api.ErrSum, sumAt)
	}
}

// P7.2: the kind 0, with the right sum, ahead of a length that may not be and of what stands behind the body.
func TestOpenKind(t *testing.T) {
	for _, long := range []int{0, 1, 2, 239, 240, 241, 242, 255} {
		for _, behind := range []string{"", "ab", strings.Repeat("\xff", 250)} {
			noOpen(t, laid(0, long, behind), api.ErrKind, 0)
		}
	}
}

// P7.2: lengths that may not be, with the right sum, ahead of what stands behind the body.
func TestOpenLong(t *testing.T) {
	for long := 241; long <= 255; long++ {
		for _, kind := range []int{1, 2, 255} {
			for _, behind := range []string{"", "ab", strings.Repeat("b", 240), strings.Repeat("\xff", 250)} {
				noOpen(t, laid(kind, long, behind), api.ErrLong, 1)
			}
		}
	}
}

// P7.2: a byte behind the body, ahead of the sum, that is no nought: the first such byte, at any place.
func TestOpenForm(t *testing.T) {
	for _, long := range []int{0, 1, 2, 5, 128, 238, 239, 240} {
		for at := 2 + long; at < sumAt; at++ {
			for _, by := range []byte{1, 2, 128, 255} {
				one := with(laid(3, long, bodies(long)[2]), at, by)
				noOpen(t, summed([]byte(one)), api.ErrForm, at)
				for _, other := range []int{at + 1, (at + sumAt) / 2, sumAt - 1} {
					if other > at && other < sumAt {
						noOpen(t, summed([]byte(with(one, other, by))), api.ErrForm, at)
					}
				}
			}
		}
		noOpen(t, laid(3, long, strings.Repeat("\xff", 250)), api.ErrForm, 2+long)
	}
	noOpen(t, laid(3, 0, "a"), api.ErrForm, 2)
	noOpen(t, laid(3, 2, "abc"), api.ErrForm, 4)
	noOpen(t, laid(3, 240, strings.Repeat("b", 241)), api.ErrForm, 242)
	noOpen(t, laid(3, 240, strings.Repeat("\x00", 249)+"b"), api.ErrForm, 251)
}

// P7.2: noughts at the end of a body are the body's, as its length says.
func TestOpenNoughts(t *testing.T) {
	for long := range most + 1 {
		opens(t, laid(9, long, ""), 9, strings.Repeat("\x00", long))
	}
}

// P7.3: a sealed sector of which one byte is another one does not open.
func TestOpenOneByte(t *testing.T) {
	for _, s := range []string{
		seals(t, 2, "ab"),
		seals(t, 1, ""),
		seals(t, 255, strings.Repeat("\xff", 240)),
		seals(t, 77, bodies(201)[2]),
	} {
		for at := range size {
			for by := 1; by <= 255; by++ {
				noOpen(t, with(s, at, s[at]^byte(by)), api.ErrSum, sumAt)
			}
		}
	}
}

// told is what the chapter's words say of 256 bytes whose sum is right.
func told(s string) (kind int, body string, code api.Errno, at int) {
	if s[0] == 0 {
		return 0, "", api.ErrKind, 0
	}
	if s[1] > most {
		return 0, "", api.ErrLong, 1
	}
	end := 2 + int(s[1])
	for i := end; i < sumAt; i++ {
		if s[i] != 0 {
			return 0, "", api.ErrForm, i
		}
	}
	return int(s[0]), s[2:end], api.OK, 0
}

// P7.2, P7.3: of any bytes with the right sum: what the words say; and what opens is what would be sealed.
func TestOpenAny(t *testing.T) {
	r := rand.New(rand.NewSource(77))
	opened, refused := 0, map[api.Errno]int{}
	for range 20000 {
		b := make([]byte, sumAt)
		b[0], b[1] = byte(r.Intn(4)), byte(r.Intn(size))
		r.Read(b[2:min(2+r.Intn(size), sumAt)])
		s := summed(b)
		kind, body, code, at := told(s)
		if code != api.OK {
			refused[code]++
			noOpen(t, s, code, at)
			continue
		}
		opened++
		opens(t, s, kind, body)
		if again := seals(t, kind, body); again != s {
			t.Fatalf("% x is sealed as % x", s, again)
		}
	}
	if opened < 100 || refused[api.ErrKind] < 100 || refused[api.ErrLong] < 100 || refused[api.ErrForm] < 100 {
		t.Errorf("too few of a sort: %d opened, refused %v", opened, refused)
	}
}

// R5, R6: what was answered stays as it was, and the same is answered again.
func TestOpenAgain(t *testing.T) {
	s := seals(t, 4, "again")
	for range 3 {
		opens(t, s, 4, "again")
		noOpen(t, with(s, 3, 'x'), api.ErrSum, sumAt)
		if again := seals(t, 4, "again"); again != s {
			t.Errorf("% x, not % x", again, s)
		}
	}
}
