package node

import (
	"math"

	"foyer/api"
	"foyer/fixed"
)

// countAt is where it stands how many cells, or keys, a node has.
const countAt = 1

// maxText is the most bytes of a text that can be read: one that is too long for a key, or a value, is read as well, and then told to be none.
const maxText = math.MaxUint8

// reading is the bytes of a node that is read. It is given up by a panic: with the reader's fault, which tells its own place, or with an error's number, for the thing that was begun last.
type reading struct {
	*fixed.Reader
	text string
	// begun is where the thing begins that was begun last.
	begun int
}

// read reads the node whose bytes s is, up to the first thing that is wrong.
func read(s string) (n api.Node, err error) {
	r := &reading{Reader: fixed.New(s), text: s}
	defer func() {
		switch wrong := recover().(type) {
		case nil:
		case *api.Fault:
			err = wrong
		case api.Errno:
			err = &api.Fault{Code: wrong, At: r.begun}
		default:
			panic(wrong)
		}
	}()
	return r.node(), nil
}

// taken is what was read, if it could be.
func taken[T any](x T, err error) T {
	if err != nil {
		panic(err)
	}
	return x
}

// must gives a reading up, if something is not so.
func must(is bool, wrong api.Errno) {
	if !is {
		panic(wrong)
	}
}

// node reads all.
func (r *reading) node() api.Node {
	must(len(r.text) <= api.MaxBody, api.ErrLong)
	mark, count := taken(r.U8()), taken(r.U8())
	must(mark == leafMark || mark == innerMark, api.ErrKind)
	r.begun = countAt
	must(count > 0, api.ErrArg)
	rest := r.keys
	if mark == leafMark {
		rest = r.cells
	}
	n := rest(int(count))
	if left := r.End(); left != nil {
		panic(left)
	}
	return n
}

// cells reads the so many cells of a leaf.
func (r *reading) cells(count int) api.Node {
	n := api.Node{Leaf: true}
	// No key has no bytes, so the first one is above this.
	last := ""
	for range count {
		c := r.cell()
		must(c.Key > last, api.ErrOrder)
		n.Cells = append(n.Cells, c)
		last = c.Key
	}
	return n
}

// keys reads the so many keys of a node that is no leaf, and its Kids.
func (r *reading) keys(count int) api.Node {
	n := api.Node{Kids: []int{r.kid()}}
	last := ""
	for range count {
		key := r.key()
		must(key > last, api.ErrOrder)
		n.Keys = append(n.Keys, key)
		n.Kids = append(n.Kids, r.kid())
		last = key
	}
	return n
}

// begin begins a thing.
func (r *reading) begin() { r.begun = r.Place() }

// cell reads a cell. What stands as a longer value must be one: a First and a Long of 0 would be a short one without bytes, which stands otherwise.
func (r *reading) cell() api.Cell {
	r.begin()
	c := api.Cell{Key: taken(r.Text(maxText))}
	isValue := isShort
	if r.isLongAhead() {
		taken(r.U8())
		c.First = int(taken(r.U16()))
		c.Long = int(taken(r.U16()))
		isValue = isLonger
	} else {
		c.Value = taken(r.Text(maxText))
	}
	must(isKey(c.Key) && isValue(c), api.ErrArg)
	return c
}

// isLongAhead tells whether the next byte is that of a longer value.
func (r *reading) isLongAhead() bool {
	return r.Left() > 0 && r.text[r.Place()] == longMark
}

// key reads a key.
func (r *reading) key() string {
	r.begin()
	key := taken(r.Text(maxText))
	must(isKey(key), api.ErrArg)
	return key
}

// kid reads the page of a Kid.
func (r *reading) kid() int {
	r.begin()
	page := int(taken(r.U16()))
	must(isPage(page), api.ErrArg)
	return page
}
