package codes

import (
	"fmt"
	"math"
	"math/rand/v2"
	"slices"
	"testing"

	"platter/api"
)

// P4.1: Check, with the bounds of what is valid.
func TestCheck(t *testing.T) {
	for i, c := range append(many(), bound()...) {
		if e := Check(c); e != api.OK {
			t.Errorf("%d: Check of %v = %d", i, c, e)
		}
	}
	for i, c := range broken() {
		if e := Check(c); e != api.ErrCode {
			t.Errorf("broken %d: Check of %v = %d", i, c, e)
		}
	}
}

// holdError fails unless each function with a code returns an error, and zero values, for a state, data, bits, and a mark.
func holdError(t *testing.T, c api.Code, state int, data, bits, mark []int, encode, decode, whole, apart api.Errno) {
	t.Helper()
	if b, last, e := Encode(c, state, data); e != encode || e != api.OK && (len(b) != 0 || last != 0) {
		t.Errorf("Encode of %v from %d of %v = %v, %d, %d, not %d", c, state, data, b, last, e, encode)
	}
	if d, e := Decode(c, state, bits); e != decode || e != api.OK && len(d) != 0 {
		t.Errorf("Decode of %v from %d of %v = %v, %d, not %d", c, state, bits, d, e, decode)
	}
	if holds, b, e := Holds(c); e != whole || e != api.OK && (holds || b.State != 0 || len(b.Data) != 0) {
		t.Errorf("Holds of %v = %v, %v, %d, not %d", c, holds, b, e, whole)
	}
	if n, e := Order(c); e != whole || e != api.OK && n != 0 {
		t.Errorf("Order of %v = %d, %d, not %d", c, n, e, whole)
	}
	if n, e := Apart(c, mark); e != apart || e != api.OK && n != 0 {
		t.Errorf("Apart of %v and %v = %d, %d, not %d", c, mark, n, e, apart)
	}
}

// P1, R1 and R2: the error of the code comes first, then that of the state, then that of the data, then all others.
func TestOrderOfErrors(t *testing.T) {
	good, bad := []int{0, 1}, []int{0, 2}
	for _, c := range broken() {
		holdError(t, c, 0, good, good, good, api.ErrCode, api.ErrCode, api.ErrCode, api.ErrCode)
		holdError(t, c, 9, bad, bad, bad, api.ErrCode, api.ErrCode, api.ErrCode, api.ErrCode)
		holdError(t, c, -1, nil, nil, nil, api.ErrCode, api.ErrCode, api.ErrCode, api.ErrCode)
	}
	for _, state := range []int{-1, 2, math.MinInt, math.MaxInt} {
		holdError(t, codeC(), state, good, good, good, api.ErrState, api.ErrState, api.OK, api.OK)
		holdError(t, codeC(), state, bad, bad, bad, api.ErrState, api.ErrState, api.OK, api.ErrArg)
		holdError(t, codeC(), state, nil, nil, nil, api.ErrState, api.ErrState, api.OK, api.ErrArg)
	}
	holdError(t, codeC(), 1, good, good, good, api.OK, api.OK, api.OK, api.OK)
	holdError(t, codeC(), 1, bad, bad, bad, api.ErrData, api.ErrArg, api.OK, api.ErrArg)
	holdError(t, codeC(), 1, nil, nil, nil, api.OK, api.OK, api.OK, api.ErrArg)
	holdError(t, codeC(), 0, good, []int{0, 0}, good, api.OK, api.ErrNone, api.OK, api.OK)
}

// P4.2, P4.3, P4.6 to P4.8: what lists are valid, with their bounds.
func TestLists(t *testing.T) {
	four := largest()
	for i, x := range []struct {
		c    api.Code
		data []int
		e    api.Errno
	}{
		{codeC(), make([]int, api.MaxWords), api.OK}, {codeC(), make([]int, api.MaxWords+1), api.ErrData}, {four, make([]int, api.MaxWords), api.OK}, {four, make([]int, api.MaxWords+1), api.ErrData},
		{codeC(), []int{0, 1, 2}, api.ErrData}, {codeC(), []int{-1, 1}, api.ErrData}, {codeC(), []int{math.MinInt}, api.ErrData}, {codeC(), []int{math.MaxInt}, api.ErrData},
		{four, []int{0, 1, 2, 3}, api.OK}, {four, []int{0, 4}, api.ErrData}, {four, []int{-1}, api.ErrData},
	} {
		if _, _, e := Encode(x.c, 0, x.data); e != x.e {
			t.Errorf("%d: Encode: %d", i, e)
		}
	}
	for i, x := range []struct {
		c    api.Code
		bits []int
		e    api.Errno
	}{
		{codeD(), make([]int, api.MaxWords+1), api.ErrArg}, {codeC(), make([]int, 2*api.MaxWords+2), api.ErrArg}, {four, make([]int, 5*api.MaxWords+5), api.ErrArg},
		{codeC(), []int{0}, api.ErrArg}, {codeC(), []int{0, 1, 0}, api.ErrArg}, {four, []int{1, 1, 1, 1}, api.ErrArg}, {four, slices.Repeat([]int{1}, 6), api.ErrArg},
		{codeC(), []int{0, 2}, api.ErrArg}, {codeC(), []int{-1, 0}, api.ErrArg}, {codeC(), []int{0, 0, 0, 2}, api.ErrArg}, {codeC(), []int{math.MinInt, math.MaxInt}, api.ErrArg},
		{codeC(), slices.Repeat([]int{0, 1}, api.MaxWords), api.OK}, {four, slices.Repeat([]int{1}, 5*api.MaxWords), api.OK}, {codeC(), nil, api.OK}, {codeC(), []int{}, api.OK},
	} {
		if _, e := Decode(x.c, 0, x.bits); e != x.e {
			t.Errorf("%d: Decode: %d", i, e)
		}
	}
	for i, x := range []struct {
		seed int
		data []int
		e    api.Errno
	}{
		{0, nil, api.ErrArg}, {-1, nil, api.ErrArg}, {128, nil, api.ErrArg}, {math.MinInt, nil, api.ErrArg}, {math.MaxInt, nil, api.ErrArg}, {1, nil, api.OK}, {127, nil, api.OK},
		{1, make([]int, api.MaxStream), api.OK}, {1, make([]int, api.MaxStream+1), api.ErrArg}, {1, []int{0, 2}, api.ErrArg}, {1, []int{-1, 0}, api.ErrArg}, {0, []int{0, 1}, api.ErrArg},
	} {
		if d, e := Scramble(x.seed, x.data); e != x.e || e != api.OK && len(d) != 0 {
			t.Errorf("%d: Scramble = %v, %d", i, d, e)
		}
	}
}

// P4.7, P4.8: what marks and streams are valid, with their bounds.
func TestMarks(t *testing.T) {
	for i, x := range []struct {
		mark, bits []int
		errors     int
		e          api.Errno
	}{
		{nil, nil, 0, api.ErrArg}, {[]int{}, []int{0}, 0, api.ErrArg}, {[]int{0}, nil, 0, api.OK}, {make([]int, api.MaxMark), nil, 0, api.OK}, {make([]int, api.MaxMark+1), nil, 0, api.ErrArg},
		{[]int{2}, nil, 0, api.ErrArg}, {[]int{0, -1}, nil, 0, api.ErrArg}, {[]int{math.MaxInt}, nil, 0, api.ErrArg},
		{[]int{0}, make([]int, api.MaxStream), 0, api.OK}, {[]int{0}, make([]int, api.MaxStream+1), 0, api.ErrArg}, {[]int{0}, []int{2}, 0, api.ErrArg}, {[]int{0}, []int{0, -1}, 0, api.ErrArg},
		{[]int{0}, []int{1}, api.MaxMark, api.OK}, {[]int{0}, []int{1}, api.MaxMark + 1, api.ErrArg}, {[]int{0}, []int{1}, -1, api.ErrArg}, {[]int{0}, []int{1}, math.MaxInt, api.ErrArg}, {[]int{0}, []int{1}, math.MinInt, api.ErrArg},
	} {
		if p, e := Find(x.mark, x.bits, x.errors); e != x.e || e != api.OK && len(p) != 0 {
			t.Errorf("%d: Find = %v, %d", i, p, e)
		}
		valid := len(x.bits) == 0 && x.errors == 0
		if n, e := Apart(codeC(), x.mark); valid && e != x.e || e != api.OK && n != 0 {
			t.Errorf("%d: Apart = %d, %d", i, n, e)
		}
	}
}

// P1: no argument, however far from any code, lets a function panic.
func TestExtremes(t *testing.T) {
	ends := []int{math.MinInt, math.MinInt + 1, -1, 0, 1, 2, 63, 64, math.MaxInt - 1, math.MaxInt}
	for _, a := range ends {
		for _, b := range ends {
			wild, odd, wide := codeC(), codeC(), codeC()
			wild.Bits, wild.Out = a, b
			odd.Least, odd.Most = a, b
			wide.Words[1][0], wide.Next[0][1] = a, b
			for _, c := range []api.Code{wild, odd, wide, codeC(), largest(), {Bits: a}} {
				for _, list := range [][]int{nil, {a}, {a, b}, {0, 1, b, a}} {
					Check(c)
					Encode(c, a, list)
					Encode(c, 0, list)
					Decode(c, b, list)
					Decode(c, 0, list)
					Holds(c)
					Order(c)
					Scramble(a, list)
					Find(list, list, b)
					Find([]int{0, 1}, list, a)
					Apart(c, list)
				}
			}
		}
	}
}

// The examples of the chapter, P4.2 to P4.8.
func TestExamples(t *testing.T) {
	bits := []int{0, 1, 0, 0, 0, 1, 0, 1, 0, 0, 1, 0}
	if b, last, e := Encode(codeC(), 0, []int{1, 0, 1, 1, 0, 0}); !slices.Equal(b, bits) || last != 0 || e != api.OK {
		t.Errorf("Encode = %v, %d, %d", b, last, e)
	}
	for i, x := range []struct {
		c          api.Code
		bits, want []int
		e          api.Errno
	}{{codeC(), []int{0, 1, 0, 0, 0, 1}, []int{1, 0, 1}, api.OK}, {codeC(), []int{0, 0}, nil, api.ErrNone}, {codeD(), []int{0, 1}, []int{1, 0}, api.OK}} {
		if d, e := Decode(x.c, 0, x.bits); !slices.Equal(d, x.want) || e != x.e {
			t.Errorf("%d: Decode = %v, %d", i, d, e)
		}
	}
	sharp := codeC()
	sharp.Most = 2
	for i, x := range []struct {
		c     api.Code
		holds bool
		want  api.Breach
	}{{codeC(), true, api.Breach{}}, {sharp, false, api.Breach{State: 1, Data: []int{0, 1}}}} {
		if holds, b, e := Holds(x.c); holds != x.holds || b.State != x.want.State || !slices.Equal(b.Data, x.want.Data) || e != api.OK {
			t.Errorf("%d: Holds = %v, %v, %d", i, holds, b, e)
		}
	}
	for i, c := range []api.Code{codeC(), codeD()} {
		if n, e := Order(c); n != i+1 || e != api.OK {
			t.Errorf("%d: Order = %d, %d", i, n, e)
		}
	}
	if d, e := Scramble(1, make([]int, 8)); !slices.Equal(d, []int{0, 0, 0, 0, 0, 0, 1, 0}) || e != api.OK {
		t.Errorf("Scramble = %v, %d", d, e)
	}
	for errors, want := range map[int][]int{0: {1}, 2: {1, 3}} {
		if p, e := Find(markM(), []int{0, 1, 0, 0, 0, 0, 1, 0, 1}, errors); !slices.Equal(p, want) || e != api.OK {
			t.Errorf("Find with %d errors = %v, %d", errors, p, e)
		}
	}
	if n, e := Apart(codeC(), markM()); n != 1 || e != api.OK {
		t.Errorf("Apart = %d, %d", n, e)
	}
}

// answers are the results of all functions for a code, as a text.
func answers(c api.Code, state int, data, bits, mark []int) string {
	b, last, e1 := Encode(c, state, data)
	d, e2 := Decode(c, state, bits)
	holds, breach, e3 := Holds(c)
	order, e4 := Order(c)
	scrambled, e5 := Scramble(77, data)
	found, e6 := Find(mark, bits, 3)
	apart, e7 := Apart(c, mark)
	return fmt.Sprint(Check(c), b, last, e1, d, e2, holds, breach, e3, order, e4, scrambled, e5, found, e6, apart, e7)
}

// roomy is a list with room behind its end, so that an append would be seen.
func roomy(list []int) []int { return append(make([]int, 0, 200), list...) }

// R3, R4: no argument is changed, results share no memory with it, and nil is the same as empty.
func TestArgumentsKept(t *testing.T) {
	for i, c := range many() {
		kept := fmt.Sprint(c)
		data, mark := roomy([]int{1, 0, 1, 1}), roomy([]int{0, 1, 1})
		stream, _, _ := Encode(c, 0, data)
		bits := roomy(stream)
		lists := fmt.Sprint(data[:200], mark[:200], bits[:200])
		whole := answers(c, 0, data, bits, mark)
		b, _, _ := Encode(c, 0, data)
		d, _ := Decode(c, 0, bits)
		_, breach, _ := Holds(c)
		scrambled, _ := Scramble(5, data)
		found, _ := Find(mark, bits, 16)
		for _, result := range [][]int{b, d, breach.Data, scrambled, found} {
			for i := range result {
				result[i] = -9
			}
		}
		if now := fmt.Sprint(c); now != kept {
			t.Fatalf("%d: the code %s is now %s", i, kept, now)
		}
		if now := fmt.Sprint(data[:200], mark[:200], bits[:200]); now != lists {
			t.Fatalf("%d: the lists %s are now %s", i, lists, now)
		}
		if now := answers(c, 0, data, bits, mark); now != whole {
			t.Fatalf("%d: the answers of %v were %s, and are %s", i, c, whole, now)
		}
		if a, b := answers(c, 0, nil, nil, mark), answers(c, 0, []int{}, []int{}, mark); a != b {
			t.Fatalf("%d: the answers of %v for nil are %s, for what is empty %s", i, c, a, b)
		}
	}
}

// P4.2: the streams of all short data, and of some long ones, are as the chapter says when it is followed word by word.
func TestEncode(t *testing.T) {
	r := rand.New(rand.NewPCG(4, 2))
	for i, c := range many() {
		all := tellings(c, 3)
		for s := range c.Words {
			all = append(all, told(c, s), told(c, s, numbers(r, api.MaxWords, 1<<c.Bits)...))
		}
		for _, x := range all {
			if bits, last, e := Encode(c, x.from, x.data); text(bits) != x.bits || last != x.last || e != api.OK {
				t.Fatalf("%d: Encode of %v from %d of %v = %v, %d, %d", i, c, x.from, x.data, bits, last, e)
			}
		}
	}
}

// P4.3: Decode returns the first of all data with a stream, and none for bits that are no stream.
func TestDecode(t *testing.T) {
	r := rand.New(rand.NewPCG(4, 3))
	several, none := 0, 0
	for i, c := range many() {
		for words := range 4 {
			all := tellings(c, words)
			for range 20 {
				x := all[r.IntN(len(all))]
				if r.IntN(3) == 0 && words > 0 {
					x.bits = text(changed(r, bitsOf(x.bits), 1))
				}
				same := slices.Clone(all)
				same = slices.DeleteFunc(same, func(o telling) bool { return o.from != x.from || o.bits != x.bits })
				data, e := Decode(c, x.from, bitsOf(x.bits))
				if len(same) == 0 {
					none++
					if len(data) != 0 || e != api.ErrNone {
						t.Fatalf("%d: Decode of %v from %d of %s = %v, %d", i, c, x.from, x.bits, data, e)
					}
					continue
				}
				if len(same) > 1 {
					several++
				}
				if !slices.Equal(data, same[0].data) || e != api.OK {
					t.Fatalf("%d: Decode of %v from %d of %s = %v, %d, not %v", i, c, x.from, x.bits, data, e, same[0].data)
				}
			}
		}
	}
	if several < 100 || none < 100 {
		t.Errorf("%d streams of several data, %d of none", several, none)
	}
}

// P4.3: the first data are found among all that there can be, also if it shows only at the end which ones they are.
func TestDecodeLong(t *testing.T) {
	c := api.Code{Bits: 2, Out: 1, Most: 12, Words: [][]int{{0, 0, 0, 0}, {0, 0, 0, 0}, {0, 0, 0, 1}}, Next: [][]int{{0, 0, 0, 1}, {1, 1, 2, 1}, {2, 2, 2, 2}}}
	bits := make([]int, api.MaxWords)
	if d, e := Decode(c, 0, bits); !slices.Equal(d, bits) || e != api.OK {
		t.Errorf("Decode of zeros = %v, %d", d, e)
	}
	bits[api.MaxWords-1] = 1
	want := make([]int, api.MaxWords)
	want[api.MaxWords-3], want[api.MaxWords-2], want[api.MaxWords-1] = 3, 2, 3
	if d, e := Decode(c, 0, bits); !slices.Equal(d, want) || e != api.OK {
		t.Errorf("Decode = %v, %d", d, e)
	}
	bits[1] = 1
	if d, e := Decode(c, 0, bits); len(d) != 0 || e != api.ErrNone {
		t.Errorf("Decode of no stream = %v, %d", d, e)
	}
	// Only the last bit tells that none of all the data fit.
	silent := api.Code{Bits: 2, Out: 1, Most: 12, Words: [][]int{{0, 0, 0, 0}}, Next: [][]int{{0, 0, 0, 0}}}
	bits[1] = 0
	if d, e := Decode(silent, 0, bits); len(d) != 0 || e != api.ErrNone {
		t.Errorf("Decode of a one of a silent code = %v, %d", d, e)
	}
}

// P4.4, P4.9: the breach is one, no shorter data have one, and a code that holds keeps the rule in all streams, the longest ones too.
func TestHolds(t *testing.T) {
	r := rand.New(rand.NewPCG(4, 4))
	tried, held := map[int]int{}, 0
	for i, c := range many() {
		holds, b, e := Holds(c)
		if e != api.OK {
			t.Fatalf("%d: Holds of %v: %d", i, c, e)
		}
		limit := 10 / c.Bits
		if holds {
			held++
			if b.State != 0 || len(b.Data) != 0 {
				t.Fatalf("%d: the breach of %v, which holds, is %v", i, c, b)
			}
		} else {
			bits, _, e := Encode(c, b.State, b.Data)
			if e != api.OK || keeps(c, text(bits)) {
				t.Fatalf("%d: the breach of %v is %v, %d", i, c, b, e)
			}
			tried[len(b.Data)]++
			limit = min(limit, len(b.Data)-1)
		}
		for words := range limit + 1 {
			for _, x := range tellings(c, words) {
				if !keeps(c, x.bits) {
					t.Fatalf("%d: Holds of %v = %v, %v, but there is %v", i, c, holds, b, x)
				}
			}
		}
		for s := range c.Words {
			for k := 0; holds && k < 20; k++ {
				bits, _, e := Encode(c, s, numbers(r, api.MaxWords, 1<<c.Bits))
				if e != api.OK || !keeps(c, text(bits)) {
					t.Fatalf("%d: %v holds, but there is %v, %d", i, c, bits, e)
				}
			}
		}
	}
	if held < 50 || tried[1] < 50 || tried[2] < 20 || tried[3] < 10 || tried[4] < 5 {
		t.Errorf("%d codes held, the others by the length of their breaches: %v", held, tried)
	}
}

// P4.4: the bounds of the rule, and the longest breaches that there are.
func TestRule(t *testing.T) {
	// Data decide how long the word of each state comes again before that of the next one.
	code := func(out, least, most int, words ...int) api.Code {
		c := api.Code{Bits: 1, Out: out, Least: least, Most: most}
		for s, w := range words {
			c.Words = append(c.Words, []int{w, w})
			c.Next = append(c.Next, []int{s, min(s+1, len(words)-1)})
		}
		return c
	}
	for i, x := range []struct {
		c     api.Code
		words int
	}{
		{code(1, 0, 0, 1), 0},
		{code(1, 0, 12, 0), 13},
		{code(1, 0, 0, 0), 1},
		{code(1, 0, 11, 0), 12},
		{code(1, 0, 12, 1), 0},
		{code(1, 1, 12, 1), 2},
		{code(1, 1, 12, 1, 0, 1), 2},
		{code(1, 12, 12, 0, 1), 2},
		{code(5, 4, 4, 1), 0},
		{code(5, 4, 4, 16), 0},
		{code(5, 5, 5, 16), 2},
		{code(5, 0, 3, 16), 1},
		{code(5, 0, 3, 1), 1},
		{code(5, 0, 3, 8), 2},
		{code(5, 0, 4, 8), 0},
		{code(5, 1, 4, 9), 0},
		{code(5, 2, 4, 9), 2},
		{code(5, 3, 4, 9), 1},
		{code(5, 1, 4, 18), 0},
		{code(5, 1, 3, 18, 0), 1},
		{code(5, 0, 12, 0), 3},
		{code(5, 0, 10, 0), 3},
		{code(5, 0, 9, 0), 2},
		{code(3, 0, 2, 1, 4), 0},
		{code(3, 0, 3, 4, 1), 2},
		{code(3, 0, 4, 4, 1), 0},
		{code(3, 1, 4, 1, 4), 2},
	} {
		holds, b, e := Holds(x.c)
		if holds != (x.words == 0) || len(b.Data) != x.words || e != api.OK {
			t.Errorf("%d: Holds of %v = %v, %v, %d", i, x.c, holds, b, e)
		}
		if bits, _, _ := Encode(x.c, b.State, b.Data); !holds && keeps(x.c, text(bits)) {
			t.Errorf("%d: the breach of %v is %v", i, x.c, b)
		}
	}
	// Data decide how many zeros stand between two ones.
	far := api.Code{Bits: 1, Out: 1, Least: 12, Most: 12, Words: [][]int{{1, 1}, {0, 0}}, Next: [][]int{{1, 1}, {1, 0}}}
	if holds, b, e := Holds(far); holds || len(b.Data) != 3 || e != api.OK {
		t.Errorf("Holds of %v = %v, %v, %d", far, holds, b, e)
	}
}

// P4.5: Order is the lowest one of all that suffice.
func TestOrder(t *testing.T) {
	for order, c := range late() {
		if n, e := Order(c); n != order || e != api.OK {
			t.Errorf("Order of %v = %d, %d, not %d", c, n, e, order)
		}
	}
	tried := map[int]int{}
	for i, c := range many() {
		n, e := Order(c)
		if e != api.OK && (e != api.ErrNone || n != 0) {
			t.Fatalf("%d: Order of %v = %d, %d", i, c, n, e)
		}
		tried[n]++
		enough := n
		if e != api.OK {
			enough = 9 / c.Bits
		}
		for words := range enough {
			if knows(c, words) {
				t.Fatalf("%d: Order of %v = %d, %d, but %d suffice", i, c, n, e, words)
			}
		}
		if e == api.OK && !knows(c, n) {
			t.Fatalf("%d: Order of %v = %d, which does not suffice", i, c, n)
		}
	}
	for order := range 8 {
		if tried[order] == 0 {
			t.Errorf("no code of the order %d", order)
		}
	}
}

// P4.10: with one word less than the order behind them, data are read again.
func TestReadAgain(t *testing.T) {
	r := rand.New(rand.NewPCG(4, 10))
	for i, c := range many() {
		n, e := Order(c)
		if e != api.OK {
			continue
		}
		for s := range c.Words {
			for _, words := range []int{0, 1, 2, 5, api.MaxWords - n + 1} {
				data := numbers(r, words+n-1, 1<<c.Bits)
				bits, _, e := Encode(c, s, data)
				again, g := Decode(c, s, bits)
				if e != api.OK || g != api.OK || len(again) != len(data) || !slices.Equal(again[:words], data[:words]) {
					t.Fatalf("%d: of %v from %d of %v is read %v, %d, %d", i, c, s, data, again, e, g)
				}
				if back, _, _ := Encode(c, s, again); !slices.Equal(back, bits) {
					t.Fatalf("%d: of %v from %d the stream of %v is %v, not %v", i, c, s, again, back, bits)
				}
			}
		}
	}
}

// P4.11: the streams of two data follow each other, and no bit depends on later words.
func TestTogether(t *testing.T) {
	r := rand.New(rand.NewPCG(4, 11))
	for i, c := range many() {
		for s := range c.Words {
			both := numbers(r, r.IntN(api.MaxWords+1), 1<<c.Bits)
			cut := r.IntN(len(both) + 1)
			whole, end, e := Encode(c, s, both)
			first, middle, e1 := Encode(c, s, both[:cut])
			second, last, e2 := Encode(c, middle, both[cut:])
			if e != api.OK || e1 != api.OK || e2 != api.OK || last != end || !slices.Equal(slices.Concat(first, second), whole) {
				t.Fatalf("%d: of %v from %d of %v, cut at %d: %v, %d and %v, %d, not %v, %d", i, c, s, both, cut, first, middle, second, last, whole, end)
			}
			other := append(slices.Clone(both[:cut]), numbers(r, len(both)-cut, 1<<c.Bits)...)
			if bits, _, _ := Encode(c, s, other); !slices.Equal(bits[:cut*c.Out], first) || len(bits) != len(whole) {
				t.Fatalf("%d: of %v from %d of %v is %v, not first %v", i, c, s, other, bits, first)
			}
		}
	}
}

// P4.6: for all seeds the row is the one in which each bit is the sum of the two that are seven and six places before it, and which begins with the seed.
func TestScramble(t *testing.T) {
	r := rand.New(rand.NewPCG(4, 6))
	for seed := 1; seed <= 127; seed++ {
		row := bitsOf(fmt.Sprintf("%07b", seed))
		for i := range api.MaxStream {
			row = append(row, (row[i]+row[i+1])%2)
		}
		for _, count := range []int{0, 1, 7, 8, 60, api.MaxStream} {
			data := numbers(r, count, 2)
			want := slices.Clone(data)
			for i := range want {
				want[i] = (want[i] + row[i]) % 2
			}
			if got, e := Scramble(seed, data); !slices.Equal(got, want) || e != api.OK {
				t.Fatalf("Scramble with %d of %v = %v, %d, not %v", seed, data, got, e, want)
			}
		}
	}
}

// P4.12: with the same seed data come back.
func TestThereAndBack(t *testing.T) {
	r := rand.New(rand.NewPCG(4, 12))
	for seed := 1; seed <= 127; seed++ {
		data := numbers(r, r.IntN(api.MaxStream+1), 2)
		there, e := Scramble(seed, data)
		back, g := Scramble(seed, there)
		if !slices.Equal(back, data) || e != api.OK || g != api.OK {
			t.Errorf("Scramble with %d of %v = %v, %d, and back %v, %d", seed, data, there, e, back, g)
		}
	}
}

// P4.7: Find returns all places whose distance is not too great, the first and the last one too.
func TestFind(t *testing.T) {
	r := rand.New(rand.NewPCG(4, 7))
	for i, x := range []struct {
		mark, bits string
		errors     int
		want       []int
	}{
		{"1", "", 16, nil}, {"11", "1", 16, nil}, {"11", "11", 0, []int{0}}, {"11", "10", 0, nil}, {"11", "10", 1, []int{0}}, {"11", "00", 1, nil}, {"11", "00", 2, []int{0}},
		{"11", "111", 0, []int{0, 1}}, {"1", "0101", 0, []int{1, 3}}, {"1", "0101", 1, []int{0, 1, 2, 3}}, {"10", "0010", 0, []int{2}}, {"01", "0110", 1, []int{0, 1}}, {"0", "0", 16, []int{0}},
		{"1111111111111111", "0000000000000000", 15, nil}, {"1111111111111111", "0000000000000000", 16, []int{0}},
	} {
		if p, e := Find(bitsOf(x.mark), bitsOf(x.bits), x.errors); !slices.Equal(p, x.want) || e != api.OK {
			t.Errorf("%d: Find = %v, %d", i, p, e)
		}
	}
	for range 2000 {
		mark := numbers(r, 1+r.IntN(api.MaxMark), 2)
		bits := numbers(r, r.IntN(api.MaxStream+1), 2)
		errors := r.IntN(api.MaxMark + 1)
		var want []int
		for i := 0; i+len(mark) <= len(bits); i++ {
			if differ(text(mark), text(bits[i:i+len(mark)])) <= errors {
				want = append(want, i)
			}
		}
		if p, e := Find(mark, bits, errors); !slices.Equal(p, want) || e != api.OK {
			t.Fatalf("Find of %v in %v with %d = %v, %d, not %v", mark, bits, errors, p, e, want)
		}
	}
}

// someMarks are marks for a code: random ones, ones that are nearly in a stream, and all bits alike.
func someMarks(r *rand.Rand, c api.Code, longest int) [][]int {
	var all [][]int
	for range 2 {
		n := 1 + r.IntN(longest)
		stream, _, _ := Encode(c, r.IntN(len(c.Words)), numbers(r, api.MaxWords, 1<<c.Bits))
		at := r.IntN(len(stream) - n + 1)
		near := stream[at : at+n]
		all = append(all, numbers(r, n, 2), near, changed(r, near, min(n, 2)), slices.Repeat([]int{r.IntN(2)}, n))
	}
	return append(all, slices.Repeat([]int{1}, longest), make([]int, longest))
}

// P4.8: Apart is the least distance of all places of all streams.
func TestApart(t *testing.T) {
	r := rand.New(rand.NewPCG(4, 8))
	tried := map[int]int{}
	for i, c := range many() {
		longest := min(api.MaxMark, 2+3*c.Out/c.Bits)
		for _, mark := range someMarks(r, c, longest) {
			want := len(mark)
			for v := range views(c, len(mark)) {
				want = min(want, differ(text(mark), v))
			}
			tried[want]++
			if n, e := Apart(c, mark); n != want || e != api.OK {
				t.Fatalf("%d: Apart of %v and %v = %d, %d, not %d", i, c, mark, n, e, want)
			}
		}
	}
	for n := range 6 {
		if tried[n] < 10 {
			t.Errorf("only %d marks are %d apart", tried[n], n)
		}
	}
}

// P4.8: marks of the greatest length, over streams of few and of many words.
func TestApartLong(t *testing.T) {
	zeros := api.Code{Bits: 1, Out: 1, Most: 12, Words: [][]int{{0, 0}}, Next: [][]int{{0, 0}}}
	turns := api.Code{Bits: 1, Out: 5, Most: 12, Words: [][]int{{0b10000, 0b10000}}, Next: [][]int{{0, 0}}}
	free := api.Code{Bits: 1, Out: 1, Most: 12, Words: [][]int{{0, 1}}, Next: [][]int{{0, 0}}}
	for i, x := range []struct {
		c    api.Code
		mark string
		want int
	}{
		{zeros, "1111111111111111", 16}, {zeros, "0000000000000000", 0}, {zeros, "0000000100000001", 2}, {free, "0110100110010110", 0}, {codeD(), "0110100110010110", 0},
		{turns, "1000010000100001", 0}, {turns, "0000100001000010", 0}, {turns, "0001000010000100", 0}, {turns, "0000100001000011", 1}, {turns, "0000000000000000", 3}, {turns, "0000", 0}, {turns, "00000", 1}, {turns, "0000011111", 5},
	} {
		if n, e := Apart(x.c, bitsOf(x.mark)); n != x.want || e != api.OK {
			t.Errorf("%d: Apart = %d, %d, not %d", i, n, e, x.want)
		}
	}
	r := rand.New(rand.NewPCG(4, 16))
	for _, c := range []api.Code{codeC(), codeD(), largest(), late()[2], late()[7]} {
		seen := views(c, api.MaxMark)
		for range 20 {
			mark := numbers(r, api.MaxMark, 2)
			want := len(mark)
			for v := range seen {
				want = min(want, differ(text(mark), v))
			}
			if n, e := Apart(c, mark); n != want || e != api.OK {
				t.Errorf("Apart of %v and %v = %d, %d, not %d", c, mark, n, e, want)
			}
		}
	}
}

// P4.13: a mark that is far enough from all streams is found where it is, and nowhere else, as long as few enough bits are changed.
func TestMarkFound(t *testing.T) {
	r := rand.New(rand.NewPCG(4, 13))
	tried := map[int]int{}
	for i, c := range many() {
		for _, mark := range someMarks(r, c, api.MaxMark) {
			apart, e := Apart(c, mark)
			if e != api.OK {
				t.Fatalf("%d: Apart of %v and %v: %d", i, c, mark, e)
			}
			for errors := 0; 2*errors < apart; errors++ {
				tried[errors]++
				s := r.IntN(len(c.Words))
				stream, last, _ := Encode(c, s, numbers(r, 1+r.IntN(50/c.Out), 1<<c.Bits))
				wrong := changed(r, stream, min(errors, len(stream)))
				if p, e := Find(mark, wrong, errors); len(p) != 0 || e != api.OK {
					t.Fatalf("%d: %v is %d apart of %v, but found at %v in %v with %d, %d", i, mark, apart, c, p, wrong, errors, e)
				}
				behind, _, _ := Encode(c, last, numbers(r, 3, 1<<c.Bits))
				sector := slices.Concat(stream, changed(r, mark, min(errors, len(mark))), behind)
				if p, e := Find(mark, sector, errors); !slices.Contains(p, len(stream)) || e != api.OK {
					t.Fatalf("%d: %v is found at %v in %v with %d, %d, not at %d", i, mark, p, sector, errors, e, len(stream))
				}
			}
		}
	}
	for errors := range 4 {
		if tried[errors] < 10 {
			t.Errorf("only %d marks bear %d errors", tried[errors], errors)
		}
	}
}

// P4.14: more errors lose no place, and no place of a stream is nearer than Apart.
func TestNoNearer(t *testing.T) {
	r := rand.New(rand.NewPCG(4, 14))
	for i, c := range many() {
		for _, mark := range someMarks(r, c, api.MaxMark) {
			stream, _, _ := Encode(c, r.IntN(len(c.Words)), numbers(r, api.MaxWords, 1<<c.Bits))
			apart, _ := Apart(c, mark)
			var before []int
			for errors := range api.MaxMark + 1 {
				places, e := Find(mark, stream, errors)
				if e != api.OK || !slices.IsSorted(places) || errors < apart && len(places) > 0 {
					t.Fatalf("%d: %v is %d apart of %v, but found at %v in %v with %d, %d", i, mark, apart, c, places, stream, errors, e)
				}
				for _, p := range before {
					if !slices.Contains(places, p) {
						t.Fatalf("%d: %v is found at %v in %v with %d, but not at %d", i, mark, places, stream, errors, p)
					}
				}
				before = places
			}
			if len(before) != max(len(stream)-len(mark)+1, 0) {
				t.Fatalf("%d: %v is found at %v in %v with as many errors as it has bits", i, mark, before, stream)
			}
		}
	}
}
