package codes

import (
	"math/rand/v2"
	"slices"
	"strconv"
	"strings"

	"platter/api"
)

// codeC is the code C of the chapter.
func codeC() api.Code {
	return api.Code{Bits: 1, Out: 2, Least: 1, Most: 3, Words: [][]int{{2, 1}, {0, 1}}, Next: [][]int{{0, 1}, {0, 1}}}
}

// codeD is the code D of the chapter.
func codeD() api.Code {
	return api.Code{Bits: 1, Out: 1, Most: 12, Words: [][]int{{0, 0}, {1, 1}}, Next: [][]int{{0, 1}, {0, 1}}}
}

// markM is the mark M of the chapter.
func markM() []int { return []int{1, 0, 0, 0, 0, 1} }

// largest is a code with as much of everything as there can be, all of whose words are different.
func largest() api.Code {
	c := api.Code{Bits: api.MaxBits, Out: api.MaxOut, Most: api.MaxZeros}
	for s := range api.MaxStates {
		c.Words = append(c.Words, []int{31 - 4*s, 30 - 4*s, 29 - 4*s, 28 - 4*s})
		c.Next = append(c.Next, []int{0, 1, 2, 3})
	}
	return c
}

// late are codes whose first words are known late, by the order that suffices.
func late() map[int]api.Code {
	return map[int]api.Code{
		2: {Bits: 1, Out: 2, Most: 12, Words: [][]int{{3, 3}, {0, 2}}, Next: [][]int{{1, 0}, {0, 0}}},
		3: {Bits: 2, Out: 3, Most: 12, Words: [][]int{{1, 1, 6, 0}, {7, 5, 2, 3}, {1, 6, 4, 0}, {5, 7, 4, 1}}, Next: [][]int{{2, 0, 1, 1}, {1, 0, 3, 3}, {1, 0, 0, 2}, {2, 0, 3, 1}}},
		4: {Bits: 1, Out: 2, Most: 12, Words: [][]int{{0, 0}, {3, 1}, {1, 3}, {2, 1}}, Next: [][]int{{2, 1}, {0, 2}, {3, 3}, {0, 0}}},
		5: {Bits: 1, Out: 2, Most: 12, Words: [][]int{{1, 3}, {1, 1}, {0, 2}, {0, 3}}, Next: [][]int{{0, 1}, {3, 2}, {1, 3}, {0, 3}}},
		6: {Bits: 2, Out: 3, Most: 12, Words: [][]int{{3, 6, 7, 4}, {0, 6, 6, 7}, {2, 1, 5, 2}, {5, 4, 3, 0}}, Next: [][]int{{1, 1, 1, 2}, {2, 2, 3, 3}, {2, 0, 0, 1}, {3, 1, 0, 1}}},
		7: {Bits: 1, Out: 2, Most: 12, Words: [][]int{{3, 3}, {3, 2}, {0, 3}, {0, 2}}, Next: [][]int{{0, 2}, {3, 3}, {1, 1}, {2, 0}}},
	}
}

// random is a code of so many words of the medium, some of which can be the same.
func random(r *rand.Rand, bits, out, states, pool int) api.Code {
	c := api.Code{Bits: bits, Out: out, Most: r.IntN(api.MaxZeros + 1)}
	c.Least = r.IntN(c.Most + 1)
	words := make([]int, pool)
	for i := range words {
		words[i] = r.IntN(1 << out)
	}
	for range states {
		var row, next []int
		for range 1 << bits {
			row = append(row, words[r.IntN(pool)])
			next = append(next, r.IntN(states))
		}
		c.Words, c.Next = append(c.Words, row), append(c.Next, next)
	}
	return c
}

// tight are a code with the sharpest rule that its short streams keep, and with rules that are just too sharp for them.
func tight(c api.Code) []api.Code {
	c.Least, c.Most = api.MaxZeros, 0
	for _, t := range tellings(c, 10/c.Bits) {
		zeros := strings.Split(t.bits, "1")
		for i, z := range zeros {
			c.Most = max(c.Most, len(z))
			if 0 < i && i < len(zeros)-1 {
				c.Least = min(c.Least, len(z))
			}
		}
	}
	c.Most = min(c.Most, api.MaxZeros)
	c.Least = min(c.Least, c.Most)
	nearer, farther := c, c
	nearer.Most--
	farther.Least++
	var all []api.Code
	for _, x := range []api.Code{c, nearer, farther} {
		if x.Least <= x.Most {
			all = append(all, x)
		}
	}
	return all
}

// many are codes of all sizes.
func many() []api.Code {
	r := rand.New(rand.NewPCG(4, 14))
	all := []api.Code{codeC(), codeD(), largest()}
	for order := range 8 {
		if c, found := late()[order]; found {
			all = append(all, c)
		}
	}
	for bits := 1; bits <= api.MaxBits; bits++ {
		for out := 1; out <= api.MaxOut; out++ {
			for states := 1; states <= api.MaxStates; states++ {
				for _, pool := range []int{2, 4, 16} {
					c := random(r, bits, out, states, pool)
					all = append(append(all, c), tight(c)...)
				}
			}
		}
	}
	return all
}

// telling is a stream: whence it comes, and where it ends.
type telling struct {
	from int
	data []int
	bits string
	last int
}

// then is a telling with one more word of data.
func (t telling) then(c api.Code, word int) telling {
	bits := strconv.FormatInt(int64(c.Words[t.last][word]), 2)
	bits = strings.Repeat("0", c.Out-len(bits)) + bits
	return telling{t.from, append(slices.Clone(t.data), word), t.bits + bits, c.Next[t.last][word]}
}

// told is the stream of data from a state on.
func told(c api.Code, state int, data ...int) telling {
	t := telling{from: state, last: state}
	for _, w := range data {
		t = t.then(c, w)
	}
	return t
}

// tellings are the streams of all data of so many words, from all states, those from one state in the order of the words.
func tellings(c api.Code, words int) []telling {
	var all []telling
	for s := range c.Words {
		all = append(all, told(c, s))
	}
	for range words {
		var longer []telling
		for _, t := range all {
			for w := range 1 << c.Bits {
				longer = append(longer, t.then(c, w))
			}
		}
		all = longer
	}
	return all
}

// keeps tells whether a stream keeps the rule of a code.
func keeps(c api.Code, bits string) bool {
	zeros := strings.Split(bits, "1")
	for i, z := range zeros {
		inner := 0 < i && i < len(zeros)-1
		if len(z) > c.Most || inner && len(z) < c.Least {
			return false
		}
	}
	return true
}

// knows tells whether a reader of so many words knows the first one.
func knows(c api.Code, words int) bool {
	type stream struct {
		from int
		bits string
	}
	first := map[stream]int{}
	for _, t := range tellings(c, words) {
		if words == 0 {
			return false
		}
		k := stream{t.from, t.bits}
		if w, found := first[k]; found && w != t.data[0] {
			return false
		}
		first[k] = t.data[0]
	}
	return true
}

// views are all rows of so many bits that stand anywhere in the streams of data that are one word longer than they need to be for this.
func views(c api.Code, length int) map[string]bool {
	type end struct {
		state int
		bits  string
	}
	ends := map[end]bool{}
	for s := range c.Words {
		ends[end{state: s}] = true
	}
	for range (length+2*(c.Out-1))/c.Out + 1 {
		longer := map[end]bool{}
		for x := range ends {
			for w := range 1 << c.Bits {
				t := telling{bits: x.bits, last: x.state}.then(c, w)
				longer[end{t.last, t.bits}] = true
			}
		}
		ends = longer
	}
	all := map[string]bool{}
	for x := range ends {
		for i := 0; i+length <= len(x.bits); i++ {
			all[x.bits[i:i+length]] = true
		}
	}
	return all
}

// differ is in how many places two texts differ.
func differ(a, b string) int {
	n := 0
	for i := range a {
		if a[i] != b[i] {
			n++
		}
	}
	return n
}

// text is a row of bits as it is in a telling.
func text(bits []int) string {
	var all strings.Builder
	for _, b := range bits {
		all.WriteString(strconv.Itoa(b))
	}
	return all.String()
}

// bitsOf is a text as a row of bits.
func bitsOf(text string) []int {
	var bits []int
	for _, c := range text {
		bits = append(bits, int(c-'0'))
	}
	return bits
}

// numbers are so many numbers, each below a limit.
func numbers(r *rand.Rand, count, limit int) []int {
	all := make([]int, count)
	for i := range all {
		all[i] = r.IntN(limit)
	}
	return all
}

// changed are bits of which so many are changed.
func changed(r *rand.Rand, bits []int, count int) []int {
	other := slices.Clone(bits)
	for _, i := range r.Perm(len(bits))[:count] {
		other[i] = 1 - other[i]
	}
	return other
}

// broken are codes each of which is not valid for one reason.
func broken() []api.Code {
	row := []int{0, 0}
	var all []api.Code
	for _, change := range []func(c *api.Code){
		func(c *api.Code) { c.Bits = 0 },
		func(c *api.Code) { c.Bits = -1 },
		func(c *api.Code) { c.Bits = 2 },
		func(c *api.Code) { c.Bits = api.MaxBits + 1; c.Words = [][]int{make([]int, 8)}; c.Next = c.Words },
		func(c *api.Code) { c.Bits = 0; c.Words = [][]int{{0}, {0}}; c.Next = c.Words },
		func(c *api.Code) { c.Out = 0 },
		func(c *api.Code) { c.Out = 0; c.Words = [][]int{row, row} },
		func(c *api.Code) { c.Out = -1 },
		func(c *api.Code) { c.Out = 1 },
		func(c *api.Code) { c.Out = api.MaxOut + 1 },
		func(c *api.Code) { c.Least = -1 },
		func(c *api.Code) { c.Least = c.Most + 1 },
		func(c *api.Code) { c.Most = 0 },
		func(c *api.Code) { c.Most = -1 },
		func(c *api.Code) { c.Most, c.Least = -1, -1 },
		func(c *api.Code) { c.Most = api.MaxZeros + 1 },
		func(c *api.Code) { c.Words, c.Next = nil, nil },
		func(c *api.Code) { c.Words = nil },
		func(c *api.Code) { c.Next = nil },
		func(c *api.Code) { c.Words = c.Words[:1] },
		func(c *api.Code) { c.Words = append(c.Words, row) },
		func(c *api.Code) { c.Next = c.Next[:1]; c.Next[0] = row },
		func(c *api.Code) { c.Next = append(c.Next, row) },
		func(c *api.Code) { c.Words = slices.Repeat([][]int{row}, api.MaxStates+1); c.Next = c.Words },
		func(c *api.Code) { c.Words[1] = nil },
		func(c *api.Code) { c.Words[0] = []int{2} },
		func(c *api.Code) { c.Words[1] = []int{0, 1, 1} },
		func(c *api.Code) { c.Next[0] = nil },
		func(c *api.Code) { c.Next[1] = []int{0} },
		func(c *api.Code) { c.Next[0] = []int{0, 1, 1} },
		func(c *api.Code) { c.Words[0][0] = 4 },
		func(c *api.Code) { c.Words[1][1] = -1 },
		func(c *api.Code) { c.Next[0][1] = 2 },
		func(c *api.Code) { c.Next[1][0] = -1 },
	} {
		c := codeC()
		change(&c)
		all = append(all, c)
	}
	return append(all, api.Code{})
}

// bound are codes each of which is just still valid.
func bound() []api.Code {
	all := []api.Code{largest()}
	for _, change := range []func(c *api.Code){
		func(c *api.Code) { c.Least, c.Most = 0, 0 },
		func(c *api.Code) { c.Least, c.Most = 0, api.MaxZeros },
		func(c *api.Code) { c.Least, c.Most = api.MaxZeros, api.MaxZeros },
		func(c *api.Code) { c.Out = api.MaxOut; c.Words[1][1] = 31 },
		func(c *api.Code) { c.Out = 1; c.Words[0][0] = 1 },
		func(c *api.Code) { c.Words, c.Next = [][]int{{3, 3}}, [][]int{{0, 0}} },
		func(c *api.Code) { c.Bits = 2; c.Words, c.Next = [][]int{{0, 1, 2, 3}}, [][]int{{0, 0, 0, 0}} },
	} {
		c := codeC()
		change(&c)
		all = append(all, c)
	}
	return all
}
