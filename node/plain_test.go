package node_test

import (
	"bytes"
	"encoding/binary"
	"encoding/hex"
	"errors"
	"math/rand"
	"slices"
	"sort"
	"strings"
	"testing"

	"foyer/api"
)

// This file is the chapter's words, gone through one by one, as plainly as can be.

// raw is the bytes that a row of hexadecimal digits tells.
func raw(s string) string {
	b, err := hex.DecodeString(strings.ReplaceAll(s, " ", ""))
	if err != nil {
		panic(err)
	}
	return string(b)
}

// text is a text's bytes, also of one that is longer than may be.
func text(s string) string { return string([]byte{byte(len(s))}) + s }

// two is a number's bytes of the width 2.
func two(n int) string { return string(binary.BigEndian.AppendUint16(nil, uint16(n))) }

// x is a text of so many bytes.
func x(n int) string { return strings.Repeat("x", n) }

// leaf is a leaf of these cells.
func leaf(cells ...api.Cell) api.Node { return api.Node{Leaf: true, Cells: cells} }

// short is a cell whose value stands in the leaf.
func short(key, value string) api.Cell { return api.Cell{Key: key, Value: value} }

// longer is a cell whose value stands in a chain of pages.
func longer(key string, first, long int) api.Cell {
	return api.Cell{Key: key, First: first, Long: long}
}

// inner is a node that is no leaf, of these keys; its Kids are the pages from kid on.
func inner(kid int, keys ...string) api.Node {
	n := api.Node{Keys: keys}
	for i := range len(keys) + 1 {
		n.Kids = append(n.Kids, kid+i)
	}
	return n
}

// same tells whether two nodes are the same; a list that is nil is one without elements.
func same(a, b api.Node) bool {
	return a.Leaf == b.Leaf && slices.Equal(a.Cells, b.Cells) && slices.Equal(a.Keys, b.Keys) && slices.Equal(a.Kids, b.Kids)
}

// isZero tells whether a node is a zero one.
func isZero(n api.Node) bool { return same(n, api.Node{}) }

// mayBeKey: a key has from 1 to 40 bytes.
func mayBeKey(s string) bool { return 1 <= len(s) && len(s) <= 40 }

// mayBeCell tells whether a cell may be.
func mayBeCell(c api.Cell) bool {
	if !mayBeKey(c.Key) {
		return false
	}
	inLeaf := len(c.Value) <= 40 && c.First == 0 && c.Long == 0
	inChain := c.Value == "" && 1 <= c.First && c.First <= 960 && 41 <= c.Long && c.Long <= 2000
	return inLeaf || inChain
}

// keysOf are the keys of a node's cells, or its Keys.
func keysOf(n api.Node) []string {
	if !n.Leaf {
		return n.Keys
	}
	var l []string
	for _, c := range n.Cells {
		l = append(l, c.Key)
	}
	return l
}

// mayBe tells whether a node may be.
func mayBe(n api.Node) bool {
	keys := keysOf(n)
	if len(keys) == 0 {
		return false
	}
	for i, k := range keys {
		if !mayBeKey(k) || i > 0 && bytes.Compare([]byte(keys[i-1]), []byte(k)) >= 0 {
			return false
		}
	}
	for _, c := range n.Cells {
		if !n.Leaf || !mayBeCell(c) {
			return false
		}
	}
	if n.Leaf {
		return len(n.Keys) == 0 && len(n.Kids) == 0
	}
	for _, kid := range n.Kids {
		if kid < 1 || kid > 960 {
			return false
		}
	}
	return len(n.Kids) == len(n.Keys)+1
}

// bytesOf are the bytes of a node, also of one that may not be, or does not fit.
func bytesOf(n api.Node) string {
	var b strings.Builder
	if n.Leaf {
		b.WriteByte(1)
	} else {
		b.WriteByte(2)
	}
	b.WriteByte(byte(len(keysOf(n))))
	for _, c := range n.Cells {
		if c.First == 0 && c.Long == 0 {
			b.WriteString(text(c.Key) + text(c.Value))
		} else {
			b.WriteString(text(c.Key) + "\xff" + two(c.First) + two(c.Long))
		}
	}
	for i, kid := range n.Kids {
		if i > 0 && i <= len(n.Keys) {
			b.WriteString(text(n.Keys[i-1]))
		}
		b.WriteString(two(kid))
	}
	return b.String()
}

// put is Put by the chapter's words.
func put(n api.Node) (string, api.Errno) {
	if !mayBe(n) {
		return "", api.ErrArg
	}
	if s := bytesOf(n); len(s) <= 240 {
		return s, api.OK
	}
	return "", api.ErrLong
}

// fault is a number and a place; of OK there is none.
type fault struct {
	code api.Errno
	at   int
}

// taker takes what stands in a text, and stays at the first fault.
type taker struct {
	s  string
	at int
	fault
}

func (r *taker) fail(code api.Errno, at int) {
	if r.code == api.OK {
		r.fault = fault{code, at}
	}
}

// number takes a number of so many bytes.
func (r *taker) number(width int) int {
	if len(r.s)-r.at < width {
		r.fail(api.ErrShort, r.at)
	}
	if r.code != api.OK {
		return 0
	}
	n := 0
	for range width {
		n = 256*n + int(r.s[r.at])
		r.at++
	}
	return n
}

// text takes a text, whose place is that of its length.
func (r *taker) text() string {
	at := r.at
	n := r.number(1)
	if r.code == api.OK && len(r.s)-r.at < n {
		r.fail(api.ErrShort, at)
	}
	if r.code != api.OK {
		return ""
	}
	r.at += n
	return r.s[r.at-n : r.at]
}

// cell takes a cell behind one of the key ahead.
func (r *taker) cell(ahead string) api.Cell {
	at := r.at
	c := api.Cell{Key: r.text()}
	isLonger := r.at < len(r.s) && r.s[r.at] == 255
	if isLonger {
		r.at++
		c.First = r.number(2)
		c.Long = r.number(2)
	} else {
		c.Value = r.text()
	}
	if !mayBeCell(c) || isLonger && c.First == 0 {
		r.fail(api.ErrArg, at)
	}
	if c.Key <= ahead {
		r.fail(api.ErrOrder, at)
	}
	return c
}

// kid takes a Kid.
func (r *taker) kid() int {
	at := r.at
	n := r.number(2)
	if n < 1 || n > 960 {
		r.fail(api.ErrArg, at)
	}
	return n
}

// key takes a key behind the one ahead.
func (r *taker) key(ahead string) string {
	at := r.at
	s := r.text()
	if !mayBeKey(s) {
		r.fail(api.ErrArg, at)
	}
	if s <= ahead {
		r.fail(api.ErrOrder, at)
	}
	return s
}

// get is Get by the chapter's words.
func get(s string) (api.Node, fault) {
	if len(s) > 240 {
		return api.Node{}, fault{api.ErrLong, 0}
	}
	r := &taker{s: s}
	sort, n := r.number(1), r.number(1)
	if sort != 1 && sort != 2 {
		r.fail(api.ErrKind, 0)
	}
	if n == 0 {
		r.fail(api.ErrArg, 1)
	}
	var out api.Node
	ahead := ""
	if sort == 1 {
		out.Leaf = true
		for range n {
			c := r.cell(ahead)
			out.Cells, ahead = append(out.Cells, c), c.Key
		}
	} else {
		out.Kids = []int{r.kid()}
		for range n {
			ahead = r.key(ahead)
			out.Keys, out.Kids = append(out.Keys, ahead), append(out.Kids, r.kid())
		}
	}
	if r.at < len(s) {
		r.fail(api.ErrLong, r.at)
	}
	if r.code != api.OK {
		return api.Node{}, r.fault
	}
	return out, fault{}
}

// parts are the parts of a cut at i, and the key between.
func parts(n api.Node, i int) (a, b api.Node, key string) {
	if n.Leaf {
		return leaf(n.Cells[:i]...), leaf(n.Cells[i:]...), n.Cells[i].Key
	}
	a = api.Node{Keys: n.Keys[:i], Kids: n.Kids[:i+1]}
	b = api.Node{Keys: n.Keys[i+1:], Kids: n.Kids[i+1:]}
	return a, b, n.Keys[i]
}

// cuts tells up to which i, from 1 on, a node can be cut.
func cuts(n api.Node) int {
	if n.Leaf {
		return len(n.Cells) - 1
	}
	return len(n.Keys) - 2
}

// split is Split by the chapter's words: the parts of all cuts are laid.
func split(n api.Node) (a, b api.Node, key string, e api.Errno) {
	if !mayBe(n) || cuts(n) < 1 {
		return a, b, "", api.ErrArg
	}
	least := 0
	for i := 1; i <= cuts(n); i++ {
		first, second, between := parts(n, i)
		size := max(len(bytesOf(first)), len(bytesOf(second)))
		if i == 1 || size < least {
			least, a, b, key = size, first, second, between
		}
	}
	return a, b, key, api.OK
}

// join is Join by the chapter's words: the node must be one of which a cut has these parts.
func join(a, b api.Node, key string) (api.Node, bool) {
	var n api.Node
	if a.Leaf != b.Leaf {
		return n, false
	}
	n.Leaf = a.Leaf
	n.Cells = append(append(n.Cells, a.Cells...), b.Cells...)
	n.Kids = append(append(n.Kids, a.Kids...), b.Kids...)
	n.Keys = append(n.Keys, a.Keys...)
	if !n.Leaf {
		n.Keys = append(n.Keys, key)
	}
	n.Keys = append(n.Keys, b.Keys...)
	if !mayBe(a) || !mayBe(b) || !mayBe(n) || len(bytesOf(n)) > 240 {
		return api.Node{}, false
	}
	return n, true
}

// find is Find by the chapter's words.
func find(n api.Node, key string) (int, bool) {
	for i, k := range keysOf(n) {
		below := k < key || !n.Leaf && k == key
		if !below {
			return i, !n.Leaf || k == key
		}
	}
	return len(keysOf(n)), !n.Leaf
}

// isFault asks for a *api.Fault itself, by its number and its place.
func isFault(t *testing.T, name string, err error, want fault) {
	t.Helper()
	f, ok := err.(*api.Fault)
	if !ok || f == nil || f.Code != want.code || f.At != want.at || !errors.Is(err, want.code) {
		t.Errorf("%s: %#v; not the fault %v", name, err, want)
	}
}

// anyText is a text of from least to most bytes, of few bytes that are alike, and of those at the edges.
func anyText(r *rand.Rand, least, most int) string {
	size := least + r.Intn(most-least+1)
	switch r.Intn(4) {
	case 0:
		size = most
	case 1:
		size = min(most, least+r.Intn(3))
	}
	b := make([]byte, size)
	for i := range b {
		b[i] = "ab\x00\xff\x28\x29"[r.Intn(6)]
	}
	return string(b)
}

// anyKeys are so many keys, or a few less, rising.
func anyKeys(r *rand.Rand, n int) []string {
	var l []string
	for range n {
		l = append(l, anyText(r, 1, 40))
	}
	sort.Strings(l)
	return slices.Compact(l)
}

// anyCell is a cell of that key.
func anyCell(r *rand.Rand, key string) api.Cell {
	if r.Intn(3) == 0 {
		edges := []int{1, 2, 255, 256, 959, 960}
		longs := []int{41, 42, 255, 256, 1999, 2000}
		return longer(key, edges[r.Intn(6)], longs[r.Intn(6)])
	}
	return short(key, anyText(r, 0, 40))
}

// anyNode is a node that may be, of at most so many cells or keys; it may not fit.
func anyNode(r *rand.Rand, most int) api.Node {
	keys := anyKeys(r, 1+r.Intn(most))
	if r.Intn(2) == 0 {
		n := api.Node{Leaf: true}
		for _, k := range keys {
			n.Cells = append(n.Cells, anyCell(r, k))
		}
		return n
	}
	n := api.Node{Keys: keys}
	for range len(keys) + 1 {
		n.Kids = append(n.Kids, 1+r.Intn(960))
	}
	return n
}

// fitting is a node that may be, and fits.
func fitting(r *rand.Rand) api.Node {
	for {
		if n := anyNode(r, 12); len(bytesOf(n)) <= 240 {
			return n
		}
	}
}
