package codes

import (
	"slices"

	"platter/api"
)

// checked is a code that is valid.
type checked struct {
	api.Code
}

func known(c api.Code) (checked, api.Errno) {
	if !valid(c) {
		return checked{}, api.ErrCode
	}
	return checked{c}, api.OK
}

// knownFrom returns the code if the state is one of it.
func knownFrom(c api.Code, state int) (checked, api.Errno) {
	k, e := known(c)
	if e != api.OK {
		return checked{}, e
	}
	if !within(state, 0, len(k.Words)-1) {
		return checked{}, api.ErrState
	}
	return k, api.OK
}

func valid(c api.Code) bool {
	if !within(c.Bits, 1, api.MaxBits) || !within(c.Out, 1, api.MaxOut) || !within(c.Most, 0, api.MaxZeros) || !within(c.Least, 0, c.Most) {
		return false
	}
	states, data, medium := len(c.Words), 1<<c.Bits, 1<<c.Out
	return within(states, 1, api.MaxStates) && len(c.Next) == states &&
		filled(c.Words, data, outside(medium)) && filled(c.Next, data, outside(states))
}

// filled tells whether each row has so many numbers, and none of them is wrong.
func filled(rows [][]int, length int, wrong func(int) bool) bool {
	return !slices.ContainsFunc(rows, func(row []int) bool {
		return len(row) != length || slices.ContainsFunc(row, wrong)
	})
}

// outside returns a closure that tells whether a number is none of so many, counted from 0.
func outside(count int) func(int) bool {
	return func(n int) bool { return !within(n, 0, count-1) }
}

// madeOf tells whether a list has at most so many numbers, each of which is one of so many, counted from 0.
func madeOf(list []int, length, count int) bool {
	return len(list) <= length && !slices.ContainsFunc(list, outside(count))
}

func isMark(mark []int) bool { return len(mark) > 0 && madeOf(mark, api.MaxMark, 2) }

func within(n, low, high int) bool { return low <= n && n <= high }

// bits returns the bits of a word of the medium.
func (c checked) bits(word int) []int {
	bits := make([]int, c.Out)
	for i := range bits {
		bits[i] = word >> (c.Out - 1 - i) & 1
	}
	return bits
}

// stream returns the stream of data from a state on, and the state after them.
func (c checked) stream(state int, data []int) ([]int, int) {
	var stream []int
	for _, w := range data {
		stream = append(stream, c.bits(c.Words[state][w])...)
		state = c.Next[state][w]
	}
	return stream, state
}

// distance returns in how many bits a mark differs from the bits of a stream that begin where it stands.
func distance(mark, bits []int) int {
	n := 0
	for i, b := range mark {
		if bits[i] != b {
			n++
		}
	}
	return n
}
