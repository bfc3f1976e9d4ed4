package correct

import (
	"slices"

	"platter/api"
)

// weave is a weave that is valid.
type weave struct {
	code
	depth int
}

func knownWeave(w api.Weave) (weave, api.Errno) {
	c, e := known(w.Outer)
	if e != api.OK || !within(w.Depth, 1, api.MaxDepth) {
		return weave{}, api.ErrOuter
	}
	return weave{c, w.Depth}, api.OK
}

func (w weave) blockSize() int { return w.depth * w.wordSize() }

func (w weave) blockDataSize() int { return w.depth * w.dataSize() }

// divided returns what each word has of the symbols of a block, or of its data.
func (w weave) divided(list []symbol) [][]symbol {
	parts := make([][]symbol, w.depth)
	for i, s := range list {
		parts[i%w.depth] = append(parts[i%w.depth], s)
	}
	return parts
}

// joined returns the list that is divided into some parts.
func (w weave) joined(parts [][]symbol) []symbol {
	list := make([]symbol, w.depth*len(parts[0]))
	for i := range list {
		list[i] = parts[i%w.depth][i/w.depth]
	}
	return list
}

// marks returns the marked positions of a word of a block.
func (w weave) marks(marked []int, word int) []int {
	return positions(w.Length, func(p int) bool { return slices.Contains(marked, p*w.depth+word) })
}

// gathered returns the data of a block, if each of its words is decoded.
func (w weave) gathered(block []symbol, marked []int) ([]symbol, bool) {
	words := w.divided(block)
	for i, word := range words {
		right, found := w.decoded(word, w.marks(marked, i))
		if !found {
			return nil, false
		}
		words[i] = right[:w.dataSize()]
	}
	return w.joined(words), true
}
