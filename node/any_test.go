package node_test

import (
	"math/rand"
	"slices"
	"testing"

	"foyer/api"
	"foyer/node"
)

// P11.6, P11.1: drawn nodes come back from their bytes, if they fit.
func TestAnyBack(t *testing.T) {
	r := rand.New(rand.NewSource(11))
	fit := 0
	for range 20000 {
		n := anyNode(r, 12)
		want, we := put(n)
		s, e := node.Put(n)
		if s != want || e != we || node.Fits(n) != (we == api.OK) {
			t.Fatalf("Put(%v): %x, %d; not %x, %d", n, s, e, want, we)
		}
		if e != api.OK {
			continue
		}
		fit++
		if back, err := node.Get(s); err != nil || !same(back, n) {
			t.Fatalf("Get(%x): %v, %v; not %v", s, back, err, n)
		}
	}
	if fit < 5000 || fit > 19000 {
		t.Errorf("%d nodes fit", fit)
	}
}

// P11.6, P11.2: what is read of any bytes is laid again just so.
func TestAnyBytes(t *testing.T) {
	r := rand.New(rand.NewSource(112))
	read := 0
	for round := range 60000 {
		s := []byte(bytesOf(fitting(r)))
		if round%4 == 0 {
			s = []byte(anyText(r, 0, 60))
			if len(s) > 0 {
				s[0] = byte(1 + r.Intn(2))
			}
			if len(s) > 1 {
				s[1] = byte(1 + r.Intn(4))
			}
		}
		for range r.Intn(3) {
			if len(s) > 0 {
				s[r.Intn(len(s))] = []byte{0, 1, 2, 40, 41, 254, 255, 'a', byte(r.Intn(256))}[r.Intn(9)]
			}
		}
		reads(t, "any bytes", string(s))
		if n, err := node.Get(string(s)); err == nil {
			read++
			if again, e := node.Put(n); again != string(s) || e != api.OK || !node.Fits(n) {
				t.Fatalf("Get(%x): %v, which is laid as %x, %d", s, n, again, e)
			}
		}
		if t.Failed() {
			t.FailNow()
		}
	}
	if read < 10000 {
		t.Errorf("%d were read", read)
	}
}

// P11.6, P11.2: each byte of drawn nodes turned to each other one.
func TestAnyTurned(t *testing.T) {
	r := rand.New(rand.NewSource(116))
	for range 12 {
		s := []byte(bytesOf(fitting(r)))
		for i, was := range s {
			for b := range 256 {
				s[i] = byte(b)
				reads(t, "turned", string(s))
			}
			s[i] = was
		}
		if t.Failed() {
			t.FailNow()
		}
	}
}

// P11.6, P11.3, P11.4: a split node's parts have its cells, or its keys and Kids, in order, and are joined to it again, if it fits.
func TestAnySplit(t *testing.T) {
	r := rand.New(rand.NewSource(113))
	joined := 0
	for range 20000 {
		n := anyNode(r, 14)
		splits(t, "any", n)
		a, b, key, e := node.Split(n)
		if e != api.OK {
			continue
		}
		if len(keysOf(a)) == 0 || len(keysOf(b)) == 0 || !mayBe(a) || !mayBe(b) {
			t.Fatalf("Split(%v): %v, %v", n, a, b)
		}
		between := []string{key}
		if n.Leaf {
			between = nil
		}
		all := api.Node{Leaf: n.Leaf, Cells: slices.Concat(a.Cells, b.Cells), Keys: slices.Concat(a.Keys, between, b.Keys), Kids: slices.Concat(a.Kids, b.Kids)}
		if n.Leaf != a.Leaf || n.Leaf != b.Leaf || !same(all, n) {
			t.Fatalf("Split(%v): %v, %v, %q", n, a, b, key)
		}
		if again, is := node.Join(a, b, key); is != node.Fits(n) || is && !same(again, n) {
			t.Fatalf("Join of the parts of %v: %v, %v", n, again, is)
		} else if is {
			joined++
		}
	}
	if joined < 4000 {
		t.Errorf("%d were joined", joined)
	}
}

// longest is a leaf, or none, that fits with as much as can be, and has one cell, or one key and Kid, more.
func longest(r *rand.Rand) api.Node {
	n := fitting(r)
	for {
		keys := keysOf(n)
		key := anyText(r, 1, 40)
		i, is := slices.BinarySearch(keys, key)
		if is {
			continue
		}
		if n.Leaf {
			n.Cells = slices.Insert(n.Cells, i, anyCell(r, key))
		} else {
			n.Keys, n.Kids = slices.Insert(n.Keys, i, key), slices.Insert(n.Kids, i+1, 1+r.Intn(960))
		}
		if len(bytesOf(n)) > 240 {
			return n
		}
	}
}

// P11.6: both parts of a node that is one cell, or one key and Kid, too long fit.
func TestAnyTooLong(t *testing.T) {
	r := rand.New(rand.NewSource(114))
	for range 20000 {
		n := longest(r)
		a, b, key, e := node.Split(n)
		if e != api.OK || !node.Fits(a) || !node.Fits(b) {
			t.Fatalf("Split(%v): %v, %v, %q, %d", n, a, b, key, e)
		}
	}
	// The worst ones: the greatest cell, and key, beside as many bytes as fit.
	for _, n := range []api.Node{
		sizes(82, 82, 74, 82), sizes(74, 82, 82, 82), sizes(82, 74, 82, 82), sizes(3, 71, 82, 82, 82),
		lengths(40, 40, 40, 40, 40, 18, 40), lengths(18, 40, 40, 40, 40, 40, 40), lengths(40, 40, 40, 18, 40, 40, 40),
	} {
		a, b, _, e := node.Split(n)
		if len(bytesOf(n)) <= 240 || e != api.OK || !node.Fits(a) || !node.Fits(b) {
			t.Errorf("Split(%v): %v, %v, %d", n, a, b, e)
		}
	}
}

// P11.4: drawn pairs of nodes, often such as are joined, and drawn keys between.
func TestAnyJoin(t *testing.T) {
	r := rand.New(rand.NewSource(115))
	joined := 0
	for range 40000 {
		a, b, key := anyNode(r, 4), anyNode(r, 4), anyText(r, 0, 42)
		if r.Intn(3) > 0 {
			whole := anyNode(r, 8)
			if cuts(whole) < 1 {
				continue
			}
			a, b, key = parts(whole, 1+r.Intn(cuts(whole)))
			switch r.Intn(6) {
			case 0:
				a, b = b, a
			case 1:
				key = anyText(r, 0, 42)
			case 2:
				b.Leaf = !b.Leaf
			}
		}
		joins(t, "any", a, b, key)
		if _, is := node.Join(a, b, key); is {
			joined++
		}
		if t.Failed() {
			t.FailNow()
		}
	}
	if joined < 4000 {
		t.Errorf("%d were joined", joined)
	}
}

// P11.5: drawn keys in drawn nodes, also in such as may not be.
func TestAnyFind(t *testing.T) {
	r := rand.New(rand.NewSource(117))
	for range 20000 {
		n := anyNode(r, 10)
		if r.Intn(3) == 0 {
			r.Shuffle(len(n.Cells), func(i, j int) { n.Cells[i], n.Cells[j] = n.Cells[j], n.Cells[i] })
			r.Shuffle(len(n.Keys), func(i, j int) { n.Keys[i], n.Keys[j] = n.Keys[j], n.Keys[i] })
		}
		keys := append(keysOf(n), anyText(r, 0, 41), "")
		for _, k := range keys {
			at, is := find(n, k)
			finds(t, n, k, at, is)
			finds(t, n, k+"\x00", firstOf(find(n, k+"\x00")), secondOf(find(n, k+"\x00")))
		}
	}
}

func firstOf(i int, _ bool) int    { return i }
func secondOf(_ int, is bool) bool { return is }
