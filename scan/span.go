package scan

import (
	"slices"

	"foyer/api"
	"foyer/node"
)

// span is the keys that are not below from, and below to; or, if it is open, all that are not below from.
type span struct {
	from, to string
	isOpen   bool
}

// spanOf tells the span from one text to another one.
func spanOf(from, to string) span { return span{from: from, to: to, isOpen: to == ""} }

// cut tells the cells of a node whose keys are in the span, and the Kids in which there may be such keys.
func (s span) cut(n api.Node) ([]api.Cell, []int) {
	low, _ := node.Find(n, s.from)
	if n.Leaf {
		return part(n.Cells, low, s.cellsBelow(n)), nil
	}
	return nil, part(n.Kids, low, s.kidsBelow(n))
}

// cellsBelow tells how many cells of a leaf have keys ahead of the span's end.
func (s span) cellsBelow(n api.Node) int {
	if s.isOpen {
		return len(n.Cells)
	}
	i, _ := node.Find(n, s.to)
	return i
}

// kidsBelow tells how many Kids of a node may have keys ahead of the span's end: the one behind a key that is that end has none.
func (s span) kidsBelow(n api.Node) int {
	if s.isOpen {
		return len(n.Kids)
	}
	i, _ := slices.BinarySearch(n.Keys, s.to)
	return i + 1
}

// part is the items from low up to high; none, if high is the lower one.
func part[T any](items []T, low, high int) []T { return items[min(low, high):high] }
