package node

import (
	"slices"

	"foyer/api"
	"foyer/fixed"
)

// leaf is a node that is a leaf.
type leaf api.Node

func (l leaf) mayBe() bool {
	if len(l.Cells) == 0 || len(l.Keys) > 0 || len(l.Kids) > 0 {
		return false
	}
	return areAll(l.Cells, isCell) && rise(l.Cells, keyOf)
}

func (l leaf) size() int { return headSize + total(l.Cells, cellSize) }

func (l leaf) lay() []byte {
	b := fixed.P8(nil, leafMark)
	b = fixed.P8(b, uint8(len(l.Cells)))
	for _, c := range l.Cells {
		b = layValue(fixed.PText(b, c.Key), c)
	}
	return b
}

func (l leaf) best() int { return bestCut(l.Cells, 0, cellSize) }

func (l leaf) cut(i int) (a, b api.Node, between string) {
	a = api.Node{Leaf: true, Cells: part(l.Cells, 0, i)}
	b = api.Node{Leaf: true, Cells: part(l.Cells, i, len(l.Cells))}
	return a, b, l.Cells[i].Key
}

// join takes no key, as that between two leaves stands in the second one.
func (l leaf) join(b api.Node, _ string) api.Node {
	return api.Node{Leaf: true, Cells: slices.Concat(l.Cells, b.Cells)}
}

// keyOf is a cell's key.
func keyOf(c api.Cell) string { return c.Key }

// isCell tells whether there may be such a cell.
func isCell(c api.Cell) bool { return isKey(c.Key) && (isShort(c) || isLonger(c)) }

// isShort tells whether a cell has a value that stands in the leaf.
func isShort(c api.Cell) bool {
	return len(c.Value) <= api.MaxInline && c.First == 0 && c.Long == 0
}

// isLonger tells whether a cell has a value that stands in a chain of pages.
func isLonger(c api.Cell) bool {
	return c.Value == "" && isPage(c.First) && c.Long > api.MaxInline && c.Long <= api.MaxValue
}

// cellSize is how many bytes a cell has.
func cellSize(c api.Cell) int {
	size := textSize + len(c.Key)
	if isLonger(c) {
		return size + longSize
	}
	return size + textSize + len(c.Value)
}

// layValue puts the bytes of a cell's value behind b.
func layValue(b []byte, c api.Cell) []byte {
	if !isLonger(c) {
		return fixed.PText(b, c.Value)
	}
	b = fixed.P8(b, longMark)
	b = fixed.P16(b, uint16(c.First))
	return fixed.P16(b, uint16(c.Long))
}
