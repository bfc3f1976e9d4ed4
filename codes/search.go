package codes

import "platter/api"

// place is a state, and the number of the bit at which its next word of the medium begins. It is below 0 if that word begins before the bits.
type place struct {
	state, bit int
}

// after returns the place behind a word of data.
func (c checked) after(p place, word int) place {
	return place{c.Next[p.state][word], p.bit + c.Out}
}

// misses returns in how many bits a word of data at a place differs from those that stand there. Bits before and behind them differ from nothing.
func (c checked) misses(p place, word int, bits []int) int {
	n := 0
	for i, b := range c.bits(c.Words[p.state][word]) {
		at := p.bit + i
		if within(at, 0, len(bits)-1) && bits[at] != b {
			n++
		}
	}
	return n
}

// read returns the first data whose stream from a state on are some bits, if there are any.
func (c checked) read(state int, bits []int) ([]int, bool) {
	data := make([]int, len(bits)/c.Out)
	dead := map[place]bool{}
	var fits func(p place) bool
	fits = func(p place) bool {
		if p.bit == len(bits) {
			return true
		}
		if dead[p] {
			return false
		}
		for w := range c.Words[p.state] {
			if c.misses(p, w, bits) == 0 && fits(c.after(p, w)) {
				data[p.bit/c.Out] = w
				return true
			}
		}
		dead[p] = true
		return false
	}
	found := fits(place{state, 0})
	return data, found
}

// apart returns the least distance of a mark from any place of any stream. A stream from the state at the word of this place has it too, so that only places in a first word are tried.
func (c checked) apart(mark []int) int {
	seen := map[place]int{}
	var least func(p place) int
	least = func(p place) int {
		if p.bit >= len(mark) {
			return 0
		}
		if n, found := seen[p]; found {
			return n
		}
		best := len(mark)
		for w := range c.Words[p.state] {
			best = min(best, c.misses(p, w, mark)+least(c.after(p, w)))
		}
		seen[p] = best
		return best
	}
	best := len(mark)
	for s := range c.Words {
		for i := range c.Out {
			best = min(best, least(place{s, -i}))
		}
	}
	return best
}

// pair is two states that two data with the same stream lead to.
type pair [2]int

// order returns the lowest order that suffices, if one does.
func (c checked) order() (int, bool) {
	pairs := map[pair]bool{}
	for s := range c.Words {
		pairs[pair{s, s}] = true
	}
	// Data that are longer than there are pairs come to a pair once more, and so can go on for ever.
	for order := range api.MaxStates*api.MaxStates + 2 {
		if len(pairs) == 0 {
			return order, true
		}
		pairs = c.onward(pairs, func(a, b int) bool { return order > 0 || a != b })
	}
	return 0, false
}

// onward returns the pairs that one more word leads to from some pairs: two words of data with the same word of the medium, which are wanted together.
func (c checked) onward(pairs map[pair]bool, wanted func(a, b int) bool) map[pair]bool {
	onward := map[pair]bool{}
	for p := range pairs {
		for a, m := range c.Words[p[0]] {
			for b, n := range c.Words[p[1]] {
				if m == n && wanted(a, b) {
					onward[pair{c.Next[p[0]][a], c.Next[p[1]][b]}] = true
				}
			}
		}
	}
	return onward
}
