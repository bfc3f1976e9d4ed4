package correct

import (
	"slices"

	"platter/api"
)

// code is a code that is valid.
type code struct {
	api.Outer
}

func known(c api.Outer) (code, api.Errno) {
	if !within(c.Length, 2, api.MaxLength) || !within(c.Parity, 1, min(api.MaxParity, c.Length-1)) {
		return code{}, api.ErrOuter
	}
	return code{c}, api.OK
}

func within(n, low, high int) bool { return low <= n && n <= high }

func (c code) wordSize() int { return c.Length }

func (c code) dataSize() int { return c.Length - c.Parity }

// correctable returns how many errors are within the bound beside so many erasures.
func (c code) correctable(erasures int) int { return (c.Parity - erasures) / 2 }

// fooling returns the lowest number of errors that can lead to another code word. That differs at Parity + 1 positions at least, and the decoder itself changes as many of them as it corrects.
func (c code) fooling() int { return c.Parity + 1 - c.correctable(0) }

// read returns a list as symbols, if there are as many as a size of a code or weave says, and all are symbols.
func read[C code | weave](c C, size func(C) int, list []int) ([]symbol, api.Errno) {
	other := func(n int) bool { return !within(n, 0, symbols-1) }
	if len(list) != size(c) || slices.ContainsFunc(list, other) {
		return nil, api.ErrWord
	}
	return converted[symbol](list), api.OK
}

// areMarks tells whether marked positions are valid among so many.
func areMarks(marked []int, count int) bool {
	next := 0
	for _, p := range marked {
		if !within(p, next, count-1) {
			return false
		}
		next = p + 1
	}
	return true
}

// positions returns those of so many positions that are chosen.
func positions(count int, chosen func(int) bool) []int {
	var all []int
	for p := range count {
		if chosen(p) {
			all = append(all, p)
		}
	}
	return all
}

// base returns the symbol whose powers the symbol at a position is multiplied by in the sums.
func (c code) base(position int) symbol { return power(c.Length - 1 - position) }

// unit returns the sums of the word that is 1 at a position and 0 at all others.
func (c code) unit(position int) []symbol {
	sums := make([]symbol, c.Parity)
	base, last := c.base(position), symbol(1)
	for i := range sums {
		sums[i] = last
		last = product(last, base)
	}
	return sums
}

// sums returns the sums that are all 0 if the word is a code word.
func (c code) sums(word []symbol) []symbol {
	sums := make([]symbol, c.Parity)
	for p, s := range word {
		for i, u := range c.unit(p) {
			sums[i] ^= product(s, u)
		}
	}
	return sums
}

// without returns sums, one fewer, that do not depend on the symbol at a position: what it adds to a sum is its base times what it adds to the one before, so that the two cancel.
func (c code) without(sums []symbol, position int) []symbol {
	fewer := make([]symbol, len(sums)-1)
	base := c.base(position)
	for i := range fewer {
		fewer[i] = sums[i+1] ^ product(sums[i], base)
	}
	return fewer
}

// withoutAll returns sums that do not depend on the symbols at a list of positions, at most as many as there are sums. They are all 0 just if no other position has to be changed to get a code word.
func (c code) withoutAll(sums []symbol, list []int) []symbol {
	for _, p := range list {
		sums = c.without(sums, p)
	}
	return sums
}

// wrong returns some of the suspects, at most so many, such that the sums without them are all 0, if there are such.
func (c code) wrong(sums []symbol, suspects []int, most int) ([]int, bool) {
	if !slices.ContainsFunc(sums, func(s symbol) bool { return s != 0 }) {
		return nil, true
	}
	if most == 0 {
		return nil, false
	}
	for i, p := range suspects {
		if others, found := c.wrong(c.without(sums, p), suspects[i+1:], most-1); found {
			return append(others, p), true
		}
	}
	return nil, false
}

// mended returns the code word that differs from a word at some positions only. There is one, and the positions are at most as many as the parity symbols.
func (c code) mended(word []symbol, wrong []int) []symbol {
	sums, mended := c.sums(word), slices.Clone(word)
	for _, p := range wrong {
		others := slices.DeleteFunc(slices.Clone(wrong), func(o int) bool { return o == p })
		// Without the others, what is left is by how much the symbol at p is wrong, times the sums of a 1 there.
		left, one := c.withoutAll(sums, others), c.withoutAll(c.unit(p), others)
		mended[p] ^= quotient(left[0], one[0])
	}
	return mended
}

// encoded returns the code word that has the data. Any data have one, because the parity symbols are as many as the sums.
func (c code) encoded(data []symbol) []symbol {
	word := make([]symbol, c.Length)
	copy(word, data)
	return c.mended(word, positions(c.Length, func(p int) bool { return p >= len(data) }))
}

// decoded returns the code word that a word is within the bound of, if there is one.
func (c code) decoded(word []symbol, marked []int) ([]symbol, bool) {
	if len(marked) > c.Parity {
		return nil, false
	}
	// A marked position is no suspect: the sums without it a second time would hide what other positions add to them.
	suspects := positions(c.Length, func(p int) bool { return !slices.Contains(marked, p) })
	wrong, found := c.wrong(c.withoutAll(c.sums(word), marked), suspects, c.correctable(len(marked)))
	if !found {
		return nil, false
	}
	return c.mended(word, slices.Concat(marked, wrong)), true
}

// near returns how many words differ from a word at so few positions that these, as errors, are within the bound.
func (c code) near() int {
	near, count := 0, 1
	for errors := range c.correctable(0) + 1 {
		near += count
		count = count * (c.Length - errors) * (symbols - 1) / (errors + 1)
	}
	return near
}
