package correct

import (
	"math/rand/v2"
	"slices"
	"testing"

	"platter/api"
	medium "platter/codes"
)

// mediumCodes are codes for the bits on the medium: C of the chapter 4, and two with one state.
func mediumCodes() []api.Code {
	return []api.Code{
		{Bits: 1, Out: 2, Least: 1, Most: 3, Words: [][]int{{2, 1}, {0, 1}}, Next: [][]int{{0, 1}, {0, 1}}},
		{Bits: 2, Out: 3, Most: 4, Words: [][]int{{1, 2, 4, 5}}, Next: [][]int{{0, 0, 0, 0}}},
		{Bits: 2, Out: 2, Most: 12, Words: [][]int{{3, 0, 1, 2}}, Next: [][]int{{0, 0, 0, 0}}},
	}
}

// write is the bits of some symbols on the medium, symbol by symbol, and how many each has.
func write(t *testing.T, m api.Code, list []int) (bits []int, each int) {
	t.Helper()
	state := 0
	for _, s := range list {
		data := []int{s >> 2, s & 3}
		if m.Bits == 1 {
			data = []int{s >> 3 & 1, s >> 2 & 1, s >> 1 & 1, s & 1}
		}
		row, last, e := medium.Encode(m, state, data)
		if e != api.OK {
			t.Fatalf("Encode of %v from %d of %v: %d", m, state, data, e)
		}
		bits, each, state = append(bits, row...), len(row), last
	}
	return bits, each
}

// readBack is what symbols are read from bits, and which of them could not be read, and so are marked.
func readBack(t *testing.T, m api.Code, bits []int, each int) (list, marked []int) {
	t.Helper()
	state := 0
	for row := range slices.Chunk(bits, each) {
		data, e := medium.Decode(m, state, row)
		if e != api.OK {
			marked, list, state = append(marked, len(list)), append(list, 0), 0
			continue
		}
		_, state, _ = medium.Encode(m, state, data)
		s := 0
		for _, d := range data {
			s = s<<m.Bits | d
		}
		list = append(list, s)
	}
	return list, marked
}

// bounded tells whether the wrong and the marked symbols of each word of a block are within the bound.
func bounded(w api.Weave, block, other, marked []int) bool {
	for k := range w.Depth {
		wrong, missing := 0, 0
		for i := k; i < len(block); i += w.Depth {
			switch {
			case slices.Contains(marked, i):
				missing++
			case block[i] != other[i]:
				wrong++
			}
		}
		if !inBound(w.Outer, wrong, missing) {
			return false
		}
	}
	return true
}

// P0.5: a block that is written to the medium, and read again with some bits changed, is gathered to its data as long as each word is within the bound.
func TestWrittenAndRead(t *testing.T) {
	r := rand.New(rand.NewPCG(5, 5))
	gathered, wrong, missing := 0, 0, 0
	for _, m := range mediumCodes() {
		for _, w := range somewhat() {
			for try := range 4 {
				data := symbolsAt(r, w.Depth*(w.Outer.Length-w.Outer.Parity))
				b, e := Spread(w, data)
				if e != api.OK {
					t.Fatalf("Spread of %v: %d", w, e)
				}
				bits, each := write(t, m, b)
				for _, p := range r.Perm(len(bits))[:try*w.Depth/2] {
					bits[p] = 1 - bits[p]
				}
				other, marked := readBack(t, m, bits, each)
				if !bounded(w, b, other, marked) {
					continue
				}
				gathered++
				wrong += apart(b, other, marked)
				missing += len(marked)
				if got, e := Gather(w, other, marked); e != api.OK || !slices.Equal(got, data) {
					t.Fatalf("%v: Gather of %v and %v, %v = %v, %d, not %v", m, w, other, marked, got, e, data)
				}
			}
		}
	}
	if gathered < 300 || wrong < 100 || missing < 100 {
		t.Errorf("%d blocks were gathered, with %d wrong and %d marked symbols", gathered, wrong, missing)
	}
}
