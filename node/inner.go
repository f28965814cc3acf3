package node

import (
	"slices"

	"foyer/api"
	"foyer/fixed"
)

// inner is a node that is no leaf.
type inner api.Node

func (n inner) mayBe() bool {
	if len(n.Cells) > 0 || len(n.Keys) == 0 || len(n.Kids) != len(n.Keys)+1 {
		return false
	}
	return areAll(n.Keys, isKey) && rise(n.Keys, itself) && areAll(n.Kids, isPage)
}

func (n inner) size() int { return headSize + kidSize + total(n.Keys, keySize) }

func (n inner) lay() []byte {
	b := fixed.P8(nil, innerMark)
	b = fixed.P8(b, uint8(len(n.Keys)))
	b = fixed.P16(b, uint16(n.Kids[0]))
	for i, key := range n.Keys {
		b = fixed.PText(b, key)
		b = fixed.P16(b, uint16(n.Kids[i+1]))
	}
	return b
}

// best leaves a gap, as the key between both parts stands in neither.
func (n inner) best() int { return bestCut(n.Keys, 1, keySize) }

func (n inner) cut(i int) (a, b api.Node, between string) {
	a = api.Node{Keys: part(n.Keys, 0, i), Kids: part(n.Kids, 0, i+1)}
	b = api.Node{Keys: part(n.Keys, i+1, len(n.Keys)), Kids: part(n.Kids, i+1, len(n.Kids))}
	return a, b, n.Keys[i]
}

func (n inner) join(b api.Node, between string) api.Node {
	return api.Node{
		Keys: slices.Concat(n.Keys, []string{between}, b.Keys),
		Kids: slices.Concat(n.Kids, b.Kids),
	}
}

// itself is a key's key.
func itself(key string) string { return key }

// keySize is how many bytes a key has, with the Kid behind it.
func keySize(key string) int { return textSize + len(key) + kidSize }
