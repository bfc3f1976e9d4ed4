package correct

import (
	"fmt"
	"math"
	"math/big"
	"math/rand/v2"
	"slices"
	"testing"

	"platter/api"
)

// encoded is the code word of data, which are valid.
func encoded(t *testing.T, c api.Outer, data []int) []int {
	t.Helper()
	w, e := Encode(c, data)
	if e != api.OK {
		t.Fatalf("Encode of %v and %v = %v, %d", c, data, w, e)
	}
	return w
}

// written is a code word by chance.
func written(t *testing.T, r *rand.Rand, c api.Outer) []int {
	t.Helper()
	return encoded(t, c, symbolsAt(r, c.Length-c.Parity))
}

// The field: its powers are those of the chapter, in a circle, and all products and quotients are as the chapter says.
func TestField(t *testing.T) {
	row := []int{1, 2, 4, 8, 3, 6, 12, 11, 5, 10, 7, 14, 15, 13, 9}
	for i := range 200 {
		if p := int(power(i)); p != a(i) || p != row[i%15] {
			t.Errorf("power(%d) = %d", i, p)
		}
	}
	for x := range 16 {
		for y := range 16 {
			p := product(symbol(x), symbol(y))
			if int(p) != times(x, y) {
				t.Errorf("product(%d, %d) = %d", x, y, p)
			}
			if y != 0 && quotient(p, symbol(y)) != symbol(x) {
				t.Errorf("quotient(%d, %d) = %d", p, y, quotient(p, symbol(y)))
			}
		}
	}
}

// P5.1: Check, with the bounds of what is valid.
func TestCheck(t *testing.T) {
	valid := 0
	for length := -2; length <= 20; length++ {
		for parity := -2; parity <= 20; parity++ {
			c := api.Outer{Length: length, Parity: parity}
			want := api.ErrOuter
			if slices.Contains(codes(), c) {
				want = api.OK
				valid++
			}
			if e := Check(c); e != want {
				t.Errorf("Check of %v = %d", c, e)
			}
		}
	}
	if valid != 84 {
		t.Errorf("%d codes are valid", valid)
	}
	for _, c := range brokenCodes() {
		if e := Check(c); e != api.ErrOuter {
			t.Errorf("Check of %v = %d", c, e)
		}
	}
}

// P5.4 to P5.6: what weaves are valid.
func TestWeaves(t *testing.T) {
	for _, c := range codes() {
		for depth := 1; depth <= api.MaxDepth; depth++ {
			w := api.Weave{Outer: c, Depth: depth}
			if _, _, e := Burst(w); e != api.OK {
				t.Errorf("Burst of %v: %d", w, e)
			}
			if _, e := Spread(w, make([]int, depth*(c.Length-c.Parity))); e != api.OK {
				t.Errorf("Spread of %v: %d", w, e)
			}
			if _, e := Gather(w, make([]int, depth*c.Length), nil); e != api.OK {
				t.Errorf("Gather of %v: %d", w, e)
			}
		}
	}
}

// holdError fails unless the functions with a word return an error, and zero values.
func holdError(t *testing.T, c api.Outer, data, word, marked []int, encode, decode api.Errno) {
	t.Helper()
	if w, e := Encode(c, data); e != encode || e != api.OK && len(w) != 0 {
		t.Errorf("Encode of %v and %v = %v, %d, not %d", c, data, w, e, encode)
	}
	if w, e := Decode(c, word, marked); e != decode || e != api.OK && len(w) != 0 {
		t.Errorf("Decode of %v and %v, %v = %v, %d, not %d", c, word, marked, w, e, decode)
	}
}

// holdBlockError fails unless the functions with a block return an error, and zero values.
func holdBlockError(t *testing.T, w api.Weave, data, block, marked []int, spread, gather api.Errno) {
	t.Helper()
	if b, e := Spread(w, data); e != spread || e != api.OK && len(b) != 0 {
		t.Errorf("Spread of %v and %v = %v, %d, not %d", w, data, b, e, spread)
	}
	if d, e := Gather(w, block, marked); e != gather || e != api.OK && len(d) != 0 {
		t.Errorf("Gather of %v and %v, %v = %v, %d, not %d", w, block, marked, d, e, gather)
	}
}

// holdReread fails unless Reread returns a word and an error.
func holdReread(t *testing.T, c api.Outer, reads [][]int, want []int, errno api.Errno) {
	t.Helper()
	if w, e := Reread(c, reads); e != errno || !slices.Equal(w, want) {
		t.Errorf("Reread of %v and %v = %v, %d, not %v, %d", c, reads, w, e, want, errno)
	}
}

// P1, R1 and R2: the error of the code or the weave comes first.
func TestErrOuter(t *testing.T) {
	good, bad := []int{1, 2}, []int{16, -1, 99}
	for _, c := range brokenCodes() {
		for _, list := range [][]int{good, bad, nil, make([]int, max(c.Length, 0)), make([]int, max(c.Length-c.Parity, 0))} {
			for _, marked := range [][]int{nil, {0}, {1, 0}, {-1}} {
				holdError(t, c, list, list, marked, api.ErrOuter, api.ErrOuter)
			}
			for _, count := range []int{0, 1, 6, 7} {
				holdReread(t, c, slices.Repeat([][]int{list}, count), nil, api.ErrOuter)
			}
		}
		for _, errors := range []int{-1, 0, 1, 99} {
			if is, e := Fooled(c, errors); is || e != api.ErrOuter {
				t.Errorf("Fooled of %v and %d = %v, %d", c, errors, is, e)
			}
		}
		if accepted, of, e := Chance(c); accepted != 0 || of != 0 || e != api.ErrOuter {
			t.Errorf("Chance of %v = %d, %d, %d", c, accepted, of, e)
		}
	}
	for _, w := range brokenWeaves() {
		for _, list := range [][]int{good, bad, nil, make([]int, 6), make([]int, 10)} {
			for _, marked := range [][]int{nil, {0}, {1, 0}, {-1}} {
				holdBlockError(t, w, list, list, marked, api.ErrOuter, api.ErrOuter)
			}
		}
		if errors, erasures, e := Burst(w); errors != 0 || erasures != 0 || e != api.ErrOuter {
			t.Errorf("Burst of %v = %d, %d, %d", w, errors, erasures, e)
		}
	}
}

// P5.2 to P5.5: data, words and blocks need the right number of symbols, and nothing else; this error comes before that of the marks.
func TestErrWord(t *testing.T) {
	marks := [][]int{nil, {0}, {1, 0}, {-1}, {0, 0}, {99}}
	for _, c := range codes() {
		data, word := make([]int, c.Length-c.Parity), make([]int, c.Length)
		holdError(t, c, data, word, nil, api.OK, api.OK)
		for _, marked := range marks {
			holdError(t, c, data[1:], word[1:], marked, api.ErrWord, api.ErrWord)
			holdError(t, c, append(data, 0), append(word, 0), marked, api.ErrWord, api.ErrWord)
			holdError(t, c, word, data, marked, api.ErrWord, api.ErrWord)
			holdError(t, c, nil, nil, marked, api.ErrWord, api.ErrWord)
			holdError(t, c, []int{}, []int{}, marked, api.ErrWord, api.ErrWord)
			for _, other := range []int{16, -1, 17, math.MinInt, math.MaxInt, 256} {
				for p := range data {
					d := slices.Clone(data)
					d[p] = other
					holdError(t, c, d, word, nil, api.ErrWord, api.OK)
				}
				for p := range word {
					w := slices.Clone(word)
					w[p] = other
					holdError(t, c, data, w, marked, api.OK, api.ErrWord)
				}
			}
		}
		for s := range 16 {
			holdError(t, c, slices.Repeat([]int{s}, len(data)), multiple(encoded(t, c, data), s), nil, api.OK, api.OK)
		}
	}
	for _, w := range []api.Weave{weaveW(), {Outer: api.Outer{Length: 2, Parity: 1}, Depth: 1}, {Outer: api.Outer{Length: 15, Parity: 8}, Depth: 8}} {
		data, block := make([]int, w.Depth*(w.Outer.Length-w.Outer.Parity)), make([]int, w.Depth*w.Outer.Length)
		holdBlockError(t, w, data, block, nil, api.OK, api.OK)
		for _, marked := range marks {
			holdBlockError(t, w, data[1:], block[1:], marked, api.ErrWord, api.ErrWord)
			holdBlockError(t, w, append(data, 0), append(block, 0), marked, api.ErrWord, api.ErrWord)
			holdBlockError(t, w, block, data, marked, api.ErrWord, api.ErrWord)
			holdBlockError(t, w, nil, nil, marked, api.ErrWord, api.ErrWord)
			for _, other := range []int{16, -1, math.MinInt, math.MaxInt, 256} {
				d, b := slices.Clone(data), slices.Clone(block)
				d[len(d)-1], b[len(b)-1] = other, other
				holdBlockError(t, w, d, b, marked, api.ErrWord, api.ErrWord)
			}
		}
	}
}

// P5.3, P5.5: marks that are not valid come before a word that is too far, and after one that is none; too many valid marks are too far.
func TestMarks(t *testing.T) {
	data, near, far := make([]int, 3), []int{1, 2, 7, 4, 4}, []int{0, 0, 3, 4, 4}
	for _, marked := range [][]int{nil, {}, {2}, {0, 1}, {3, 4}, {0, 4}, {0, 1, 2}, {1, 3, 4}, run(0, 4), run(0, 5)} {
		for _, word := range [][]int{near, far} {
			want := api.OK
			if len(marked) > 2 || len(nearTo(codeC(), listed(codeC()), word, marked)) == 0 {
				want = api.ErrFar
			}
			holdError(t, codeC(), data, word, marked, api.OK, want)
		}
	}
	for _, marked := range [][]int{
		{-1}, {5}, {1, 0}, {1, 1}, {0, 2, 1}, {2, 1, 3}, {0, 1, 2, 2}, {0, 0, 1, 2}, run(0, 6), run(-1, 5), run(1, 5), {0, math.MaxInt}, {math.MinInt, 0}, {math.MaxInt, math.MinInt},
	} {
		holdError(t, codeC(), data, near, marked, api.OK, api.ErrArg)
		holdError(t, codeC(), data, far, marked, api.OK, api.ErrArg)
		holdError(t, codeC(), data, far[1:], marked, api.OK, api.ErrWord)
		holdError(t, codeC(), data, []int{0, 0, 16, 4, 4}, marked, api.OK, api.ErrWord)
	}
	block := make([]int, 10)
	broken := []int{0, 0, 0, 0, 3, 0, 4, 0, 4, 0}
	for _, x := range []struct {
		marked []int
		e      api.Errno
	}{
		{nil, api.OK}, {[]int{9}, api.OK}, {[]int{0, 1, 2, 3}, api.OK}, {[]int{0, 9}, api.OK}, {[]int{0, 2, 4}, api.ErrFar}, {[]int{1, 3, 9}, api.ErrFar}, {[]int{0, 1, 2, 3, 4}, api.ErrFar}, {run(0, 10), api.ErrFar},
		{[]int{10}, api.ErrArg}, {[]int{-1}, api.ErrArg}, {[]int{2, 1}, api.ErrArg}, {[]int{3, 3}, api.ErrArg}, {run(0, 11), api.ErrArg}, {run(-1, 4), api.ErrArg}, {[]int{0, math.MaxInt}, api.ErrArg}, {[]int{math.MinInt}, api.ErrArg},
	} {
		holdBlockError(t, weaveW(), make([]int, 6), block, x.marked, api.OK, x.e)
		holdBlockError(t, weaveW(), make([]int, 6), block[1:], x.marked, api.OK, api.ErrWord)
		if x.e == api.ErrArg {
			holdBlockError(t, weaveW(), make([]int, 6), broken, x.marked, api.OK, api.ErrArg)
		}
	}
}

// P1: no argument, however far from any code, lets a function panic.
func TestExtremes(t *testing.T) {
	ends := []int{math.MinInt, math.MinInt + 1, -1, 0, 1, 2, 8, 15, 16, math.MaxInt - 1, math.MaxInt}
	for _, x := range ends {
		for _, y := range ends {
			for _, c := range []api.Outer{{Length: x, Parity: y}, {Length: y, Parity: 1}, codeC(), {Length: 2, Parity: 1}, {Length: 15, Parity: 8}} {
				Check(c)
				Fooled(c, x)
				Chance(c)
				for _, list := range [][]int{nil, {x}, {x, y}, {0, 1, 2, y, x}, slices.Repeat([]int{x}, 15)} {
					for _, marked := range [][]int{nil, {x}, {x, y}, {y, x, 0}, run(0, 15), {0, 1, 2, 3, 4, y}} {
						w := api.Weave{Outer: c, Depth: y}
						Encode(c, list)
						Decode(c, list, marked)
						Spread(w, list)
						Gather(w, list, marked)
						Burst(w)
						Reread(c, [][]int{list, nil, marked})
					}
				}
			}
		}
	}
}

// The examples of the chapter, P5.2 to P5.9.
func TestExamples(t *testing.T) {
	for _, x := range [][2][]int{{{1, 2, 3}, {1, 2, 3, 4, 4}}, {{1, 0, 0}, {1, 0, 0, 15, 14}}} {
		if w, e := Encode(codeC(), x[0]); !slices.Equal(w, x[1]) || e != api.OK {
			t.Errorf("Encode of %v = %v, %d", x[0], w, e)
		}
	}
	for _, x := range []struct {
		word, marked, want []int
		e                  api.Errno
	}{
		{[]int{1, 2, 7, 4, 4}, nil, []int{1, 2, 3, 4, 4}, api.OK}, {[]int{9, 2, 3, 0, 4}, []int{0, 3}, []int{1, 2, 3, 4, 4}, api.OK},
		{[]int{0, 0, 3, 4, 4}, nil, nil, api.ErrFar}, {[]int{0, 0, 0, 15, 14}, nil, []int{1, 0, 0, 15, 14}, api.OK},
	} {
		if w, e := Decode(codeC(), x.word, x.marked); !slices.Equal(w, x.want) || e != x.e {
			t.Errorf("Decode of %v and %v = %v, %d", x.word, x.marked, w, e)
		}
	}
	if b, e := Spread(weaveW(), []int{1, 1, 2, 0, 3, 0}); !slices.Equal(b, []int{1, 1, 2, 0, 3, 0, 4, 15, 4, 14}) || e != api.OK {
		t.Errorf("Spread = %v, %d", b, e)
	}
	if errors, erasures, e := Burst(weaveW()); errors != 2 || erasures != 4 || e != api.OK {
		t.Errorf("Burst = %d, %d, %d", errors, erasures, e)
	}
	for errors, want := range map[int]bool{1: false, 2: true} {
		if is, e := Fooled(codeC(), errors); is != want || e != api.OK {
			t.Errorf("Fooled with %d = %v, %d", errors, is, e)
		}
	}
	if accepted, of, e := Chance(codeC()); accepted != 19 || of != 64 || e != api.OK {
		t.Errorf("Chance = %d, %d, %d", accepted, of, e)
	}
	holdReread(t, codeC(), [][]int{{1, 2, 7, 4, 4}, {0, 0, 3, 4, 4}}, []int{1, 2, 3, 4, 4}, api.OK)
	holdReread(t, codeC(), [][]int{{1, 2, 7, 4, 4}, {0, 0, 0, 15, 14}}, nil, api.ErrSplit)
}

// answers are the results of all functions, as a text.
func answers(w api.Weave, data, word, marked, blockData, block, blockMarked []int, reads [][]int) string {
	c := w.Outer
	encoded, e1 := Encode(c, data)
	decoded, e2 := Decode(c, word, marked)
	spread, e3 := Spread(w, blockData)
	gathered, e4 := Gather(w, block, blockMarked)
	errors, erasures, e5 := Burst(w)
	fooled, e6 := Fooled(c, 3)
	accepted, of, e7 := Chance(c)
	read, e8 := Reread(c, reads)
	return fmt.Sprint(Check(c), encoded, e1, decoded, e2, spread, e3, gathered, e4, errors, erasures, e5, fooled, e6, accepted, of, e7, read, e8)
}

// roomy is a list with room behind its end, so that an append would be seen.
func roomy(list []int) []int { return append(make([]int, 0, 200), list...) }

// R3, R4: no argument is changed, results share no memory with it or with each other, and nil is the same as empty.
func TestArgumentsKept(t *testing.T) {
	r := rand.New(rand.NewPCG(5, 1))
	for i, c := range codes() {
		w := api.Weave{Outer: c, Depth: 1 + i%api.MaxDepth}
		data, blockData := roomy(symbolsAt(r, c.Length-c.Parity)), roomy(symbolsAt(r, w.Depth*(c.Length-c.Parity)))
		made, _ := Encode(c, data)
		spread, _ := Spread(w, blockData)
		word, block := roomy(made), roomy(spread)
		marked, blockMarked := roomy(some(r, c.Parity, c.Length)), roomy(run(1, c.Parity))
		reads := append(make([][]int, 0, 9), word, roomy(word))
		arguments := func() string {
			return fmt.Sprint(data[:200], blockData[:200], word[:200], block[:200], marked[:200], blockMarked[:200], reads[:9], reads[1][:200])
		}
		kept := arguments()
		whole := answers(w, data, word, marked, blockData, block, blockMarked, reads)
		decoded, _ := Decode(c, word, marked)
		intact, _ := Decode(c, word, nil)
		gathered, _ := Gather(w, block, nil)
		read, _ := Reread(c, reads)
		for _, result := range [][]int{made, spread, decoded, intact, gathered, read} {
			if len(result) == 0 {
				t.Fatalf("%v: an empty result", w)
			}
			for i := range result {
				result[i] = -9
			}
			_ = append(result, 99)
		}
		if now := arguments(); now != kept {
			t.Fatalf("%v: the arguments %s are now %s", w, kept, now)
		}
		if now := answers(w, data, word, marked, blockData, block, blockMarked, reads); now != whole {
			t.Fatalf("%v: the answers were %s, and are %s", w, whole, now)
		}
		if a, b := answers(w, data, word, nil, blockData, block, nil, nil), answers(w, data, word, []int{}, blockData, block, []int{}, [][]int{}); a != b {
			t.Fatalf("%v: the answers for nil are %s, for what is empty %s", w, a, b)
		}
	}
}

// The model: the listed code words are just those that the chapter's sums make code words.
func TestListed(t *testing.T) {
	for _, c := range codes() {
		if c.Length > 4 {
			continue
		}
		all := everyWord(c.Length)
		all = slices.DeleteFunc(all, func(w []int) bool { return !isCodeWord(c, w) })
		other := listed(c)
		slices.SortFunc(other, slices.Compare)
		if !slices.EqualFunc(all, other, slices.Equal) {
			t.Errorf("the code words of %v are not those that are listed", c)
		}
	}
}

// P5.2: Encode returns the code word that has the data, for all data where these are few, and for some of all codes.
func TestEncode(t *testing.T) {
	r := rand.New(rand.NewPCG(5, 2))
	for _, c := range codes() {
		count := c.Length - c.Parity
		var all [][]int
		if count <= 2 {
			all = everyWord(count)
		}
		for p := range count {
			one := make([]int, count)
			one[p] = 1 + r.IntN(15)
			all = append(all, one, symbolsAt(r, count))
		}
		for _, data := range append(all, make([]int, count), slices.Repeat([]int{15}, count)) {
			if w, e := Encode(c, data); e != api.OK || !isCodeWord(c, w) || !slices.Equal(w[:count], data) {
				t.Fatalf("Encode of %v and %v = %v, %d", c, data, w, e)
			}
		}
		if count > 3 {
			continue
		}
		found := map[string]bool{}
		for _, w := range listed(c) {
			found[fmt.Sprint(w[:count])] = true
			if other, e := Encode(c, w[:count]); e != api.OK || !slices.Equal(other, w) {
				t.Fatalf("Encode of %v and %v = %v, %d, not %v", c, w[:count], other, e, w)
			}
		}
		if len(found) != 1<<(4*count) {
			t.Errorf("the code words of %v have %d different data", c, len(found))
		}
	}
}

// holdDecode fails unless Decode returns the only listed code word within the bound of a word, or refuses if there is none. It tells whether it was found.
func holdDecode(t *testing.T, c api.Outer, all [][]int, word, marked []int) bool {
	t.Helper()
	near := nearTo(c, all, word, marked)
	right, e := Decode(c, word, marked)
	switch {
	case len(near) > 1:
		t.Fatalf("%v: near to %v, %v are %v", c, word, marked, near)
	case len(near) == 0 && (e != api.ErrFar || len(right) != 0):
		t.Fatalf("%v: Decode of %v, %v = %v, %d, but no code word is near", c, word, marked, right, e)
	case len(near) == 1 && (e != api.OK || !slices.Equal(right, near[0])):
		t.Fatalf("%v: Decode of %v, %v = %v, %d, not %v", c, word, marked, right, e, near[0])
	}
	return len(near) == 1
}

// P5.3, P5.10: all words with all marks of the shortest codes, held against the list of the code words.
func TestDecodeAll(t *testing.T) {
	for _, c := range codes() {
		if c.Length > 3 {
			continue
		}
		all := listed(c)
		for _, word := range everyWord(c.Length) {
			for set := range 1 << c.Length {
				holdDecode(t, c, all, word, positions(c.Length, func(p int) bool { return set>>p&1 == 1 }))
			}
		}
	}
}

// P5.3, P5.10: words with errors and marks, of which some overlap, up to beyond the bound, and words by chance, of all codes with few enough code words to list them.
func TestDecode(t *testing.T) {
	r := rand.New(rand.NewPCG(5, 3))
	found, none := 0, 0
	for _, c := range codes() {
		if c.Length-c.Parity > 3 {
			continue
		}
		all := listed(c)
		for i := range 150 {
			word := spoiled(r, all[r.IntN(len(all))], some(r, r.IntN(min(c.Length, c.Parity/2+3)+1), c.Length)...)
			if i%10 == 0 {
				word = symbolsAt(r, c.Length)
			}
			var marked []int
			if i%3 > 0 {
				marked = some(r, r.IntN(c.Parity+2), c.Length)
			}
			if holdDecode(t, c, all, word, marked) {
				found++
			} else {
				none++
			}
		}
	}
	if found < 500 || none < 500 {
		t.Errorf("%d words were decoded, %d were not", found, none)
	}
}

// P5.10: a code word with errors and erasures within the bound is decoded to itself, for all codes and all numbers of both.
func TestWithinBound(t *testing.T) {
	r := rand.New(rand.NewPCG(5, 10))
	for _, c := range codes() {
		for erasures := range c.Parity + 1 {
			for errors := 0; inBound(c, errors, erasures); errors++ {
				for range 12 {
					word := written(t, r, c)
					other, marked := noisy(r, word, errors, erasures)
					if right, e := Decode(c, other, marked); e != api.OK || !slices.Equal(right, word) {
						t.Fatalf("%v: Decode of %v, %v = %v, %d, not %v", c, other, marked, right, e, word)
					}
				}
			}
		}
	}
}

// P5.3, P5.10: what Decode returns beyond the bound is a code word within the bound of the word, and never with too many marks.
func TestBeyondBound(t *testing.T) {
	r := rand.New(rand.NewPCG(5, 11))
	other, refused := 0, 0
	for _, c := range codes() {
		for range 40 {
			erasures := r.IntN(min(c.Parity+2, c.Length) + 1)
			errors := r.IntN(c.Length - erasures + 1)
			word, marked := noisy(r, written(t, r, c), errors, erasures)
			right, e := Decode(c, word, marked)
			switch {
			case e == api.ErrFar && len(right) == 0 && !inBound(c, errors, erasures):
				refused++
			case e == api.OK && isCodeWord(c, right) && inBound(c, apart(word, right, marked), len(marked)):
				if !inBound(c, errors, erasures) {
					other++
				}
			default:
				t.Fatalf("%v: Decode of %v, %v = %v, %d", c, word, marked, right, e)
			}
		}
	}
	if other < 100 || refused < 100 {
		t.Errorf("%d words were decoded to others, %d were refused", other, refused)
	}
}

// P5.10: two code words differ at more than Parity positions, so that of no word two are within the bound.
func TestFarApart(t *testing.T) {
	for _, c := range codes() {
		if c.Length-c.Parity > 3 {
			continue
		}
		zero := make([]int, c.Length)
		for _, w := range listed(c) {
			// By P5.12 two code words differ where their sum, a code word too, is not 0.
			if n := apart(w, zero, nil); n > 0 && n <= c.Parity {
				t.Fatalf("%v: %v differs at %d positions from 0", c, w, n)
			}
		}
	}
}

// block is the block of some words, as the chapter says it.
func block(w api.Weave, words [][]int) []int {
	list := make([]int, w.Depth*len(words[0]))
	for i := range list {
		list[i] = words[i%w.Depth][i/w.Depth]
	}
	return list
}

// somewhat are weaves of all codes, with one Depth each, and of one code with all.
func somewhat() []api.Weave {
	var all []api.Weave
	for i, c := range codes() {
		all = append(all, api.Weave{Outer: c, Depth: 1 + (i+c.Length)%api.MaxDepth})
	}
	for depth := 1; depth <= api.MaxDepth; depth++ {
		all = append(all, api.Weave{Outer: codeC(), Depth: depth}, api.Weave{Outer: api.Outer{Length: 15, Parity: 8}, Depth: depth})
	}
	return all
}

// P5.4: Spread lays the code words of the data into a block, each at its places.
func TestSpread(t *testing.T) {
	r := rand.New(rand.NewPCG(5, 4))
	for _, w := range somewhat() {
		var words, parts [][]int
		for range w.Depth {
			word := written(t, r, w.Outer)
			words, parts = append(words, word), append(parts, word[:w.Outer.Length-w.Outer.Parity])
		}
		data := block(w, parts)
		if b, e := Spread(w, data); e != api.OK || !slices.Equal(b, block(w, words)) {
			t.Fatalf("Spread of %v and %v = %v, %d, not %v", w, data, b, e, block(w, words))
		}
	}
}

// P5.5: Gather returns the data of the words, each decoded with its own marks, and refuses if one is too far.
func TestGather(t *testing.T) {
	r := rand.New(rand.NewPCG(5, 5))
	gathered, refused := 0, 0
	for _, w := range somewhat() {
		c := w.Outer
		for try := range 12 {
			var words, parts [][]int
			var marked []int
			far := false
			for k := range w.Depth {
				erasures := r.IntN(c.Parity + 1)
				errors := r.IntN((c.Parity-erasures)/2 + 1)
				if try%3 == 0 && r.IntN(w.Depth) == 0 {
					errors = r.IntN(c.Length - erasures + 1)
				}
				word, marks := noisy(r, written(t, r, c), errors, erasures)
				right, e := Decode(c, word, marks)
				if e == api.OK {
					parts = append(parts, right[:c.Length-c.Parity])
				}
				far = far || e != api.OK
				words = append(words, word)
				for _, p := range marks {
					marked = append(marked, p*w.Depth+k)
				}
			}
			slices.Sort(marked)
			b := block(w, words)
			data, e := Gather(w, b, marked)
			if far {
				refused++
				if e != api.ErrFar || len(data) != 0 {
					t.Fatalf("Gather of %v and %v, %v = %v, %d", w, b, marked, data, e)
				}
				continue
			}
			gathered++
			if want := block(w, parts); e != api.OK || !slices.Equal(data, want) {
				t.Fatalf("Gather of %v and %v, %v = %v, %d, not %v", w, b, marked, data, e, want)
			}
		}
	}
	if gathered < 300 || refused < 100 {
		t.Errorf("%d blocks were gathered, %d were refused", gathered, refused)
	}
}

// P5.5: one word that is too far is enough for a block to be refused, whichever it is.
func TestGatherOneFar(t *testing.T) {
	for depth := 1; depth <= api.MaxDepth; depth++ {
		w := api.Weave{Outer: codeC(), Depth: depth}
		for k := range depth {
			words := slices.Repeat([][]int{make([]int, 5)}, depth)
			words[k] = []int{0, 0, 3, 4, 4}
			if data, e := Gather(w, block(w, words), nil); e != api.ErrFar || len(data) != 0 {
				t.Errorf("Gather of %v with the word %d too far = %v, %d", w, k, data, e)
			}
		}
	}
}

// gathers tells whether a block with a burst of wrong (or marked) symbols is gathered to its data, for just this noise.
func gathers(t *testing.T, r *rand.Rand, w api.Weave, from, count int, marked bool) bool {
	t.Helper()
	data := symbolsAt(r, w.Depth*(w.Outer.Length-w.Outer.Parity))
	b, e := Spread(w, data)
	if e != api.OK {
		t.Fatalf("Spread of %v: %d", w, e)
	}
	var marks []int
	if marked {
		marks = run(from, count)
	}
	other, e := Gather(w, spoiled(r, b, run(from, count)...), marks)
	return e == api.OK && slices.Equal(other, data)
}

// P5.6, P5.13: bursts as long as Burst says are borne wherever they are; longer ones, where the block has room for them, are not.
func TestBurst(t *testing.T) {
	r := rand.New(rand.NewPCG(5, 6))
	for _, w := range somewhat() {
		errors, erasures, e := Burst(w)
		if e != api.OK {
			t.Fatalf("Burst of %v: %d", w, e)
		}
		size := w.Depth * w.Outer.Length
		for i, most := range []int{errors, erasures} {
			marked := i == 1
			if most < 0 || most >= size {
				t.Fatalf("Burst of %v = %d, %d", w, errors, erasures)
			}
			for from := 0; from+most <= size; from += 1 + r.IntN(3) {
				if !gathers(t, r, w, from, most, marked) || !gathers(t, r, w, from, r.IntN(most+1), marked) {
					t.Fatalf("%v: a burst of %d from %d on is not borne, marked: %v", w, most, from, marked)
				}
			}
			if !gathers(t, r, w, size-most, most, marked) {
				t.Fatalf("%v: a burst of %d at the end is not borne, marked: %v", w, most, marked)
			}
			if from := r.IntN(size - most); gathers(t, r, w, from, most+1, marked) {
				t.Fatalf("%v: a burst of %d from %d on is borne, marked: %v", w, most+1, from, marked)
			}
		}
	}
}

// P5.13: with a greater Depth the bursts are longer (those of errors if one error is corrected).
func TestBurstDepth(t *testing.T) {
	for _, c := range codes() {
		for depth := 2; depth <= api.MaxDepth; depth++ {
			lessErrors, lessErasures, _ := Burst(api.Weave{Outer: c, Depth: depth - 1})
			errors, erasures, e := Burst(api.Weave{Outer: c, Depth: depth})
			if e != api.OK || erasures <= lessErasures || errors <= lessErrors && c.Parity > 1 || errors < 0 {
				t.Errorf("Burst of %v with the Depth %d = %d, %d, before %d, %d", c, depth, errors, erasures, lessErrors, lessErasures)
			}
		}
	}
}

// fooledBy are the numbers of errors with which some word is decoded to another code word than 0. All words of a few symbols are tried; those whose first symbol that is not 0 is 1 stand for their multiples.
func fooledBy(c api.Outer) (numbers []bool, accepted int) {
	numbers = make([]bool, c.Length+1)
	zero := make([]int, c.Length)
	word := make([]int, c.Length)
	var each func(p int, begun bool)
	each = func(p int, begun bool) {
		if p == c.Length {
			right, e := Decode(c, word, nil)
			if e != api.OK {
				return
			}
			if begun {
				accepted += 15
			} else {
				accepted++
			}
			if !slices.Equal(right, zero) {
				numbers[apart(word, zero, nil)] = true
			}
			return
		}
		for s := range 16 {
			if !begun && s > 1 {
				break
			}
			word[p] = s
			each(p+1, begun || s > 0)
		}
		word[p] = 0
	}
	each(0, false)
	return numbers, accepted
}

// P5.7, P5.8, P5.11: Fooled and Chance, held against all words of the shorter codes.
func TestAllWords(t *testing.T) {
	for _, c := range codes() {
		if c.Length > 5 {
			continue
		}
		numbers, count := fooledBy(c)
		for errors, want := range numbers {
			if is, e := Fooled(c, errors); is != want || e != api.OK {
				t.Errorf("Fooled of %v and %d = %v, %d", c, errors, is, e)
			}
		}
		part := big.NewRat(int64(count), 1<<(4*c.Length))
		accepted, of, e := Chance(c)
		if e != api.OK || big.NewInt(int64(accepted)).Cmp(part.Num()) != 0 || big.NewInt(int64(of)).Cmp(part.Denom()) != 0 {
			t.Errorf("Chance of %v = %d, %d, %d, not %v", c, accepted, of, e, part)
		}
	}
}

// P5.7: what numbers of errors Fooled takes.
func TestFooledArguments(t *testing.T) {
	for _, c := range codes() {
		for _, errors := range []int{-1, -2, c.Length + 1, 16, math.MinInt, math.MaxInt} {
			if is, e := Fooled(c, errors); is || e != api.ErrArg {
				t.Errorf("Fooled of %v and %d = %v, %d", c, errors, is, e)
			}
		}
		for errors := range c.Length + 1 {
			if _, e := Fooled(c, errors); e != api.OK {
				t.Errorf("Fooled of %v and %d: %d", c, errors, e)
			}
		}
		if is, _ := Fooled(c, 0); is {
			t.Errorf("Fooled of %v and 0", c)
		}
	}
}

// just is a code word that is not 0 at just so many positions, more than Parity.
func just(t *testing.T, r *rand.Rand, c api.Outer, count int) []int {
	t.Helper()
	for range 1000 {
		word := make([]int, c.Length)
		at := some(r, count, c.Length)
		for _, p := range at[c.Parity:] {
			word[p] = 1 + r.IntN(15)
		}
		right, e := Decode(c, word, at[:c.Parity])
		if e != api.OK || !isCodeWord(c, right) {
			t.Fatalf("%v: Decode of %v, %v = %v, %d", c, word, at[:c.Parity], right, e)
		}
		if apart(right, make([]int, c.Length), nil) == count {
			return right
		}
	}
	t.Fatalf("%v: no code word with %d symbols that are not 0", c, count)
	return nil
}

// P5.7, P5.11: if Fooled is true, some word with so many errors is decoded to another code word; if it is false, none of many is.
func TestFooled(t *testing.T) {
	r := rand.New(rand.NewPCG(5, 7))
	for _, c := range codes() {
		for errors := range c.Length + 1 {
			is, e := Fooled(c, errors)
			if e != api.OK {
				t.Fatalf("Fooled of %v and %d: %d", c, errors, e)
			}
			first := written(t, r, c)
			if is {
				// Another code word that differs from the first one at this number of positions, or at a few more of which some are still right.
				difference := just(t, r, c, max(errors, c.Parity+1))
				second := sum(first, difference)
				word := slices.Clone(second)
				for _, p := range positions(c.Length, func(p int) bool { return difference[p] != 0 })[errors:] {
					word[p] = first[p]
				}
				if right, e := Decode(c, word, nil); apart(word, first, nil) != errors || e != api.OK || !slices.Equal(right, second) {
					t.Fatalf("%v: Decode of %v, with %d errors in %v, = %v, %d", c, word, errors, first, right, e)
				}
				continue
			}
			for range 30 {
				word, _ := noisy(r, first, errors, 0)
				if right, e := Decode(c, word, nil); e != api.ErrFar && (e != api.OK || !slices.Equal(right, first)) {
					t.Fatalf("%v: Decode of %v, with %d errors in %v, = %v, %d", c, word, errors, first, right, e)
				}
			}
		}
	}
}

// P5.8, P5.15: Chance is, in lowest terms, the part of the words that are near to a code word.
func TestChance(t *testing.T) {
	for _, c := range codes() {
		near := big.NewInt(0)
		for errors := 0; inBound(c, errors, 0); errors++ {
			ways := new(big.Int).Binomial(int64(c.Length), int64(errors))
			near.Add(near, ways.Mul(ways, new(big.Int).Exp(big.NewInt(15), big.NewInt(int64(errors)), nil)))
		}
		near.Mul(near, new(big.Int).Exp(big.NewInt(16), big.NewInt(int64(c.Length-c.Parity)), nil))
		part := new(big.Rat).SetFrac(near, new(big.Int).Exp(big.NewInt(16), big.NewInt(int64(c.Length)), nil))
		accepted, of, e := Chance(c)
		if e != api.OK || big.NewInt(int64(accepted)).Cmp(part.Num()) != 0 || big.NewInt(int64(of)).Cmp(part.Denom()) != 0 {
			t.Errorf("Chance of %v = %d, %d, %d, not %v", c, accepted, of, e, part)
		}
		if accepted < 1 || accepted > of {
			t.Errorf("Chance of %v = %d of %d", c, accepted, of)
		}
	}
}

// P5.8: about as large a part of words by chance is accepted.
func TestChanceOfNoise(t *testing.T) {
	r := rand.New(rand.NewPCG(5, 8))
	for _, c := range codes() {
		if c.Length < 9 || c.Parity > 6 {
			continue
		}
		const tries = 400
		count := 0
		for range tries {
			if _, e := Decode(c, symbolsAt(r, c.Length), nil); e == api.OK {
				count++
			}
		}
		accepted, of, _ := Chance(c)
		if want := tries * float64(accepted) / float64(of); math.Abs(float64(count)-want) > 50 {
			t.Errorf("%v: %d of %d words were accepted, not %f", c, count, tries, want)
		}
	}
}

// P5.9: how many readings there can be, and what they have to be; this comes before whether they are decoded.
func TestReadings(t *testing.T) {
	word, other, far := []int{1, 2, 3, 4, 4}, []int{1, 0, 0, 15, 14}, []int{0, 0, 3, 4, 4}
	for count := 1; count <= api.MaxReads; count++ {
		holdReread(t, codeC(), slices.Repeat([][]int{word}, count), word, api.OK)
		holdReread(t, codeC(), slices.Repeat([][]int{far}, count), nil, api.ErrFar)
	}
	for _, count := range []int{0, api.MaxReads + 1, 20} {
		for _, w := range [][]int{word, far, nil, {16}} {
			holdReread(t, codeC(), slices.Repeat([][]int{w}, count), nil, api.ErrArg)
		}
	}
	holdReread(t, codeC(), nil, nil, api.ErrArg)
	for _, wrong := range [][]int{nil, {}, word[1:], append(slices.Clone(word), 0), {1, 2, 3, 4, 16}, {-1, 2, 3, 4, 4}, {math.MinInt, 0, 0, 0, math.MaxInt}} {
		for _, reads := range [][][]int{{wrong}, {word, wrong}, {wrong, word}, {word, other, wrong}, {far, wrong}, {far, far, far, far, far, wrong}} {
			holdReread(t, codeC(), reads, nil, api.ErrWord)
		}
	}
}

// P5.9: what is decoded counts, wherever it is; two code words are a split, wherever they are.
func TestReread(t *testing.T) {
	r := rand.New(rand.NewPCG(5, 9))
	outcomes := map[api.Errno]int{}
	for _, c := range codes() {
		for try := range 40 {
			first, second := written(t, r, c), written(t, r, c)
			reads := make([][]int, 1+r.IntN(api.MaxReads))
			var decoded [][]int
			for i := range reads {
				word := first
				if try%4 == 0 && r.IntN(3) == 0 {
					word = second
				}
				reads[i], _ = noisy(r, word, r.IntN(min(c.Length, c.Parity+1)+1), 0)
				if right, e := Decode(c, reads[i], nil); e == api.OK && !slices.ContainsFunc(decoded, func(o []int) bool { return slices.Equal(o, right) }) {
					decoded = append(decoded, right)
				}
			}
			want, errno := []int(nil), api.ErrFar
			switch {
			case len(decoded) == 1:
				want, errno = decoded[0], api.OK
			case len(decoded) > 1:
				errno = api.ErrSplit
			}
			outcomes[errno]++
			holdReread(t, c, reads, want, errno)
		}
	}
	for _, errno := range []api.Errno{api.OK, api.ErrFar, api.ErrSplit} {
		if outcomes[errno] < 50 {
			t.Errorf("only %d outcomes are %d", outcomes[errno], errno)
		}
	}
}

// P5.14: readings with no more errors than can not mislead lead to the code word, or to ErrFar.
func TestReadAgain(t *testing.T) {
	r := rand.New(rand.NewPCG(5, 14))
	right, refused := 0, 0
	for _, c := range codes() {
		most := 0
		for most < c.Length {
			if is, _ := Fooled(c, most+1); is {
				break
			}
			most++
		}
		for range 40 {
			word := written(t, r, c)
			reads := make([][]int, 1+r.IntN(api.MaxReads))
			for i := range reads {
				reads[i], _ = noisy(r, word, r.IntN(most+1), 0)
			}
			if len(reads) < 3 {
				reads[0], _ = noisy(r, word, most, 0)
			}
			w, e := Reread(c, reads)
			switch {
			case e == api.OK && slices.Equal(w, word):
				right++
			case e == api.ErrFar && len(w) == 0:
				refused++
			default:
				t.Fatalf("Reread of %v and %v = %v, %d, not %v", c, reads, w, e, word)
			}
		}
	}
	if right < 100 || refused < 100 {
		t.Errorf("%d words were read, %d were refused", right, refused)
	}
}

// P5.12: the sum of two code words is one, and so is each multiple.
func TestLinear(t *testing.T) {
	r := rand.New(rand.NewPCG(5, 12))
	for _, c := range codes() {
		count := c.Length - c.Parity
		for range 5 {
			v, w := symbolsAt(r, count), symbolsAt(r, count)
			both := sum(encoded(t, c, v), encoded(t, c, w))
			if !isCodeWord(c, both) || !slices.Equal(both, encoded(t, c, sum(v, w))) {
				t.Fatalf("%v: the sum of the code words of %v and %v is %v", c, v, w, both)
			}
			for s := range 16 {
				many := multiple(encoded(t, c, v), s)
				if !isCodeWord(c, many) || !slices.Equal(many, encoded(t, c, multiple(v, s))) {
					t.Fatalf("%v: the code word of %v times %d is %v", c, v, s, many)
				}
			}
		}
	}
}

// P5.15: with one more parity symbol no fewer errors are corrected, and no fewer can mislead.
func TestMoreParity(t *testing.T) {
	r := rand.New(rand.NewPCG(5, 15))
	for _, c := range codes() {
		more := api.Outer{Length: c.Length, Parity: c.Parity + 1}
		if Check(more) != api.OK {
			continue
		}
		fewer, _, _ := Burst(api.Weave{Outer: c, Depth: 1})
		errors, _, e := Burst(api.Weave{Outer: more, Depth: 1})
		if e != api.OK || errors < fewer {
			t.Errorf("%v corrects %d errors, %v only %d", c, fewer, more, errors)
		}
		word := written(t, r, more)
		other, _ := noisy(r, word, fewer, 0)
		if right, e := Decode(more, other, nil); e != api.OK || !slices.Equal(right, word) {
			t.Errorf("%v does not correct %d errors", more, fewer)
		}
		for n := range c.Length + 1 {
			before, _ := Fooled(c, n)
			after, e := Fooled(more, n)
			if e != api.OK || after && !before {
				t.Errorf("%d errors can mislead %v, but not %v", n, more, c)
			}
		}
	}
}
