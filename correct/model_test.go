package correct

import (
	"math/rand/v2"
	"slices"

	"platter/api"
)

// codeC is the code C of the chapter.
func codeC() api.Outer { return api.Outer{Length: 5, Parity: 2} }

// weaveW is the weave W of the chapter.
func weaveW() api.Weave { return api.Weave{Outer: codeC(), Depth: 2} }

// codes are all codes that are valid.
func codes() []api.Outer {
	var all []api.Outer
	for length := 2; length <= api.MaxLength; length++ {
		for parity := 1; parity <= min(api.MaxParity, length-1); parity++ {
			all = append(all, api.Outer{Length: length, Parity: parity})
		}
	}
	return all
}

// brokenCodes are codes each of which is not valid for one reason.
func brokenCodes() []api.Outer {
	return []api.Outer{
		{}, {Length: 1, Parity: 1}, {Length: 1, Parity: 0}, {Length: 0, Parity: 1}, {Length: -5, Parity: 2}, {Length: -5, Parity: -6},
		{Length: 5, Parity: 0}, {Length: 5, Parity: -1}, {Length: 2, Parity: 2}, {Length: 5, Parity: 5}, {Length: 5, Parity: 6}, {Length: 8, Parity: 8},
		{Length: 15, Parity: 9}, {Length: 10, Parity: 9}, {Length: 16, Parity: 2}, {Length: 16, Parity: 8},
	}
}

// brokenWeaves are weaves each of which is not valid for one reason.
func brokenWeaves() []api.Weave {
	var all []api.Weave
	for _, c := range brokenCodes() {
		all = append(all, api.Weave{Outer: c, Depth: 2})
	}
	for _, depth := range []int{0, -1, api.MaxDepth + 1, 100} {
		all = append(all, api.Weave{Outer: codeC(), Depth: depth})
	}
	return all
}

// times is the product of two symbols, as the chapter says it.
func times(a, b int) int {
	sum := 0
	for _, bit := range []int{1, 2, 4, 8} {
		if b&bit != 0 {
			sum ^= a
		}
		if a < 8 {
			a = 2 * a
		} else {
			a = (2*a - 16) ^ 3
		}
	}
	return sum
}

// a is a power of 2.
func a(i int) int {
	p := 1
	for range i {
		p = times(p, 2)
	}
	return p
}

// isCodeWord tells whether a word is a code word, as the chapter says it.
func isCodeWord(c api.Outer, word []int) bool {
	if len(word) != c.Length {
		return false
	}
	for i := range c.Parity {
		sum := 0
		for j, s := range word {
			sum ^= times(s, a(i*(c.Length-1-j)))
		}
		if sum != 0 {
			return false
		}
	}
	return true
}

// everyWord are all words of so many symbols.
func everyWord(length int) [][]int {
	all := [][]int{nil}
	for range length {
		var longer [][]int
		for _, w := range all {
			for s := range 16 {
				longer = append(longer, append(slices.Clone(w), s))
			}
		}
		all = longer
	}
	return all
}

// listed are the code words of a code, without its functions: the polynomials (with the symbol at the last position as the one that is multiplied by nothing) that have a(0), a(1) and so on as roots, as multiples of the one of the lowest degree.
func listed(c api.Outer) [][]int {
	least := []int{1}
	for i := range c.Parity {
		longer := append(slices.Clone(least), 0)
		for j, s := range least {
			longer[j+1] ^= times(s, a(i))
		}
		least = longer
	}
	all := [][]int{make([]int, c.Length)}
	for p := range c.Length - c.Parity {
		var more [][]int
		for _, w := range all {
			for s := range 16 {
				next := slices.Clone(w)
				for j, x := range least {
					next[p+j] ^= times(s, x)
				}
				more = append(more, next)
			}
		}
		all = more
	}
	return all
}

// apart is at how many positions that are not marked two words differ.
func apart(v, w, marked []int) int {
	n := 0
	for p := range v {
		if v[p] != w[p] && !slices.Contains(marked, p) {
			n++
		}
	}
	return n
}

// inBound tells whether so many errors and erasures are within the bound of a code.
func inBound(c api.Outer, errors, erasures int) bool { return 2*errors+erasures <= c.Parity }

// nearTo are the code words within the bound of a word.
func nearTo(c api.Outer, all [][]int, word, marked []int) [][]int {
	var near [][]int
	for _, x := range all {
		if inBound(c, apart(word, x, marked), len(marked)) {
			near = append(near, x)
		}
	}
	return near
}

// symbolsAt are so many symbols by chance.
func symbolsAt(r *rand.Rand, count int) []int {
	list := make([]int, count)
	for i := range list {
		list[i] = r.IntN(16)
	}
	return list
}

// some are so many of the numbers below a limit, strictly ascending.
func some(r *rand.Rand, count, limit int) []int {
	list := r.Perm(limit)[:count]
	slices.Sort(list)
	return list
}

// spoiled is a list whose symbols at some positions are all wrong.
func spoiled(r *rand.Rand, list []int, at ...int) []int {
	other := slices.Clone(list)
	for _, p := range at {
		other[p] ^= 1 + r.IntN(15)
	}
	return other
}

// noisy is a word with so many errors, and so many marked positions beside them at which any symbols stand.
func noisy(r *rand.Rand, word []int, errors, erasures int) (other, marked []int) {
	at := r.Perm(len(word))[:errors+erasures]
	other = spoiled(r, word, at[:errors]...)
	marked = slices.Sorted(slices.Values(at[errors:]))
	for _, p := range marked {
		other[p] = r.IntN(16)
	}
	return other, marked
}

// sum is the sum of two words, position by position.
func sum(v, w []int) []int {
	all := slices.Clone(v)
	for i := range all {
		all[i] ^= w[i]
	}
	return all
}

// multiple is the product of a word by a symbol, position by position.
func multiple(w []int, s int) []int {
	all := slices.Clone(w)
	for i := range all {
		all[i] = times(all[i], s)
	}
	return all
}

// run are so many successive numbers.
func run(from, count int) []int {
	list := make([]int, count)
	for i := range list {
		list[i] = from + i
	}
	return list
}
