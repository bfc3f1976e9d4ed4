package servo

import (
	"math"
	"math/rand/v2"
	"slices"
	"testing"

	"platter/api"
)

// P2.1: Gray and Track, with the numbers that they take and those that they do not.
func TestGrayAndTrack(t *testing.T) {
	for i, want := range []int{0, 1, 3, 2, 6, 7, 5, 4, 12} {
		if c, e := Gray(i); c != want || e != api.OK {
			t.Errorf("Gray of %d = %d, %d", i, c, e)
		}
		if n, e := Track(want); n != i || e != api.OK {
			t.Errorf("Track of %d = %d, %d", want, n, e)
		}
	}
	if c, e := Gray(127); c != 64 || e != api.OK {
		t.Errorf("Gray of 127 = %d, %d", c, e)
	}
	if n, e := Track(127); n != 85 || e != api.OK {
		t.Errorf("Track of 127 = %d, %d", n, e)
	}
	for _, n := range []int{-1, -2, 128, 129, math.MinInt, math.MaxInt} {
		if c, e := Gray(n); c != 0 || e != api.ErrArg {
			t.Errorf("Gray of %d = %d, %d", n, c, e)
		}
		if m, e := Track(n); m != 0 || e != api.ErrArg {
			t.Errorf("Track of %d = %d, %d", n, m, e)
		}
	}
}

// P2.1, P2.9: Track is the inverse of Gray, and the codes of neighbours differ in one bit, so that each mixture of their bits is one of them.
func TestOneBit(t *testing.T) {
	before := 0
	for n := range 2 * api.MaxTracks {
		c, e := Gray(n)
		if c != n^(n/2) || e != api.OK {
			t.Errorf("Gray of %d = %d, %d", n, c, e)
		}
		if m, e := Track(c); m != n || e != api.OK {
			t.Errorf("Track of %d = %d, %d", c, m, e)
		}
		if n > 0 {
			for mask := range 2 * api.MaxTracks {
				if m, _ := Track(c&mask | before&^mask); m != n && m != n-1 {
					t.Fatalf("a mixture of %d and %d is the code of %d", before, c, m)
				}
			}
			if differ := c ^ before; differ == 0 || differ&(differ-1) != 0 {
				t.Errorf("the codes of %d and %d are %d and %d", n-1, n, before, c)
			}
		}
		before = c
	}
}

// P2.2: Check, at the ends of what it allows and beyond them.
func TestCheck(t *testing.T) {
	for i, s := range []api.Servo{
		least(), largest(), servoS(), servoT(),
		{Tracks: 64, Step: 1, Runout: []int{-16}},
		{Tracks: 1, Step: 16, Move: 64, Noise: 16, Wrong: 3, Runout: []int{16, -16}},
	} {
		for j, w := range [][]api.Wedge{nil, {}, make([]api.Wedge, 24), read(-1, -100, -1, 100, 0, -100, 127, 100)} {
			if e := Check(s, w); e != api.OK {
				t.Errorf("%d, %d: Check = %d", i, j, e)
			}
		}
	}
	for i, s := range broken() {
		if e := Check(s, nil); e != api.ErrServo {
			t.Errorf("broken %d: Check = %d", i, e)
		}
	}
	for i, w := range unreadable() {
		if e := Check(servoS(), w); e != api.ErrRead {
			t.Errorf("unreadable %d: Check = %d", i, e)
		}
	}
	if e := Check(servoS(), wedgesV()); e != api.OK {
		t.Errorf("Check of wedges of no possible path = %d", e)
	}
}

// call is a call of a function of a servo; it returns its error, and whether its other result is its zero value.
type call struct {
	name string
	of   func(s api.Servo, w []api.Wedge) (zero bool, e api.Errno)
}

// calls are calls with arguments that are wrong or right; Check and Fewest have none.
func calls(wrongArguments bool) []call {
	ahead, gates, ends := []int{0, 1, 24}, [][2]int{{0, 0}, {3, 16}, {2, 5}}, []int{0, 12}
	if wrongArguments {
		ahead = []int{-1, 25, math.MinInt, math.MaxInt}
		gates = [][2]int{{-1, 0}, {4, 0}, {0, -1}, {3, 17}, {-1, 17}, {math.MinInt, 0}, {math.MaxInt, 16}, {0, math.MaxInt}, {0, math.MinInt}}
		ends = []int{-1, 13, math.MinInt, math.MaxInt}
	}
	var list []call
	for _, more := range ahead {
		list = append(list, call{"Ahead", func(s api.Servo, w []api.Wedge) (bool, api.Errno) {
			spans, e := Ahead(s, w, more)
			return len(spans) == 0, e
		}})
	}
	for _, g := range gates {
		list = append(list, call{"Gate", func(s api.Servo, w []api.Wedge) (bool, api.Errno) {
			n, e := Gate(s, w, g[0], g[1])
			return n == 0, e
		}})
	}
	for _, p := range ends {
		list = append(list, call{"Trace", func(s api.Servo, w []api.Wedge) (bool, api.Errno) {
			path, e := Trace(s, w, p)
			return len(path) == 0, e
		}})
	}
	return list
}

// plain are calls of the functions that have no argument of their own.
func plain() []call {
	return []call{
		{"Where", func(s api.Servo, w []api.Wedge) (bool, api.Errno) {
			spans, e := Where(s, w)
			return len(spans) == 0, e
		}},
		{"Blame", func(s api.Servo, w []api.Wedge) (bool, api.Errno) {
			blamed, e := Blame(s, w)
			return len(blamed) == 0, e
		}},
	}
}

// fewest is a call of Fewest.
func fewest() call {
	return call{"Fewest", func(s api.Servo, w []api.Wedge) (bool, api.Errno) {
		n, e := Fewest(s, w)
		return n == 0, e
	}}
}

func hold(t *testing.T, c call, s api.Servo, w []api.Wedge, want api.Errno) {
	t.Helper()
	if zero, e := c.of(s, w); !zero || e != want {
		t.Errorf("%s of %v and %v: the error is %d, not %d; zero: %v", c.name, s, w, e, want, zero)
	}
}

// P1, R1, R2: of several errors ErrServo is the first, then ErrRead, then ErrArg, then ErrNone; the other result is zero.
func TestOrderOfErrors(t *testing.T) {
	functions := append(append(calls(true), calls(false)...), append(plain(), fewest())...)
	for _, c := range functions {
		for _, s := range broken() {
			for _, w := range append(unreadable(), nil, wedgesV()) {
				hold(t, c, s, w, api.ErrServo)
			}
		}
		for _, w := range unreadable() {
			hold(t, c, servoS(), w, api.ErrRead)
		}
	}
	for _, c := range calls(true) {
		hold(t, c, servoS(), wedgesW(), api.ErrArg)
		hold(t, c, servoS(), wedgesV(), api.ErrArg)
		hold(t, c, servoS(), nil, api.ErrArg)
	}
	for _, c := range append(calls(false), plain()...) {
		hold(t, c, servoS(), wedgesV(), api.ErrNone)
	}
	if n, e := Fewest(servoS(), wedgesV()); n != 1 || e != api.OK {
		t.Errorf("Fewest of wedges of no possible path = %d, %d", n, e)
	}
}

// P1: no argument, however far from any servo, lets a function panic.
func TestExtremes(t *testing.T) {
	ends := []int{math.MinInt, math.MinInt + 1, -1, 0, 1, math.MaxInt - 1, math.MaxInt}
	for _, a := range ends {
		Gray(a)
		Track(a)
		for _, b := range ends {
			wild := api.Servo{Tracks: a, Step: b, Move: a, Noise: b, Wrong: a, Runout: []int{b, a}}
			for _, s := range []api.Servo{wild, servoT(), {Tracks: 2, Step: 1, Runout: []int{a}}} {
				for _, w := range [][]api.Wedge{nil, read(a, b), wedgesW()} {
					Check(s, w)
					Where(s, w)
					Ahead(s, w, a)
					Gate(s, w, a, b)
					Blame(s, w)
					Fewest(s, w)
					Trace(s, w, a)
				}
			}
		}
	}
}

// P2.3, P2.4, P2.5: the largest servo and the most wedges, of which nothing, or nothing true, was read.
func TestLargest(t *testing.T) {
	s := largest()
	lost := slices.Repeat([]api.Wedge{none}, api.MaxWedges)
	if w, e := Where(s, lost); !slices.Equal(w, []api.Span{span(0, 1008)}) || e != api.OK {
		t.Errorf("Where = %v, %d", w, e)
	}
	if w, e := Ahead(s, lost, api.MaxWedges); !slices.Equal(w, []api.Span{span(0, 1008)}) || e != api.OK {
		t.Errorf("Ahead = %v, %d", w, e)
	}
	if p, e := Trace(s, lost, 1008); len(p) != 24 || p[23] != 1008 || e != api.OK {
		t.Errorf("Trace = %v, %d", p, e)
	}
	// The code 64 is that of the track 127, which there is not.
	elsewhere := slices.Repeat(read(64, 0), api.MaxWedges)
	if n, e := Fewest(s, elsewhere); n != 24 || e != api.OK {
		t.Errorf("Fewest = %d, %d", n, e)
	}
	if b, e := Blame(s, elsewhere[:3]); !slices.Equal(b, []int{0, 1, 2}) || e != api.OK {
		t.Errorf("Blame = %v, %d", b, e)
	}
	if b, e := Blame(s, elsewhere[:4]); len(b) != 0 || e != api.ErrNone {
		t.Errorf("Blame = %v, %d", b, e)
	}
	if n, e := Gate(least(), slices.Repeat(read(0, 0), api.MaxWedges), 0, 0); n != api.MaxWedges || e != api.OK {
		t.Errorf("Gate = %d, %d", n, e)
	}
}

// R4: no argument is changed, results share no memory, and the same call has the same result.
func TestArgumentsKept(t *testing.T) {
	s, w := servoT(), wedgesV()
	once, _ := Where(s, w)
	path, _ := Trace(s, w, 5)
	blamed, _ := Blame(s, w)
	want := slices.Clone(once)
	once[0], path[0], blamed[0] = span(9, 9), 9, 9
	Ahead(s, w, 3)
	Gate(s, w, 1, 3)
	Fewest(s, w)
	if again, _ := Where(s, w); !slices.Equal(again, want) {
		t.Errorf("Where = %v, then %v", want, again)
	}
	if again, _ := Blame(s, w); !slices.Equal(again, []int{1}) {
		t.Errorf("Blame = %v", again)
	}
	if !slices.Equal(w, wedgesV()) || !slices.Equal(s.Runout, servoT().Runout) {
		t.Errorf("the arguments are now %v and %v", s, w)
	}
}

// P2.3: Where, with the examples and the edges of what agrees.
func TestWhere(t *testing.T) {
	far := api.Servo{Tracks: 4, Step: 4, Noise: 16, Runout: []int{0}}
	gap := api.Servo{Tracks: 4, Step: 4, Noise: 0, Wrong: 1, Runout: []int{0}}
	moved := api.Servo{Tracks: 2, Step: 1, Runout: []int{-16}}
	odd := api.Servo{Tracks: 3, Step: 3, Noise: 16, Runout: []int{0}}
	for i, x := range []struct {
		s    api.Servo
		w    []api.Wedge
		want []api.Span
		e    api.Errno
	}{
		{servoS(), wedgesW(), []api.Span{span(6, 8)}, api.OK},
		{servoS(), wedgesV(), nil, api.ErrNone},
		{servoT(), wedgesV(), []api.Span{span(4, 6)}, api.OK},
		{servoS(), nil, []api.Span{span(0, 12)}, api.OK},
		{servoS(), []api.Wedge{none}, []api.Span{span(0, 12)}, api.OK},
		{far, read(1, 0), []api.Span{span(2, 6)}, api.OK}, // half a Step agrees
		{odd, read(1, 0), []api.Span{span(2, 4)}, api.OK},
		{far, read(1, 14), []api.Span{span(2, 6)}, api.OK},
		{far, read(1, 15), []api.Span{span(3, 6)}, api.OK},
		{far, read(1, -18), []api.Span{span(2, 2)}, api.OK},
		{far, read(1, -19), nil, api.ErrNone},
		{far, read(2, 0), []api.Span{span(10, 12)}, api.OK}, // the last track, 3
		{far, read(6, 0), nil, api.ErrNone},                 // the track 4, which there is not
		{far, read(0, 0), []api.Span{span(0, 2)}, api.OK},
		{gap, read(0, 0, 2, 0), []api.Span{span(0, 0), span(12, 12)}, api.OK},
		{gap, read(1, 0, 0, 1, 0, 1), []api.Span{span(1, 1)}, api.OK},
		{moved, read(0, 0), nil, api.ErrNone},
		{least(), read(0, 0), []api.Span{span(0, 0)}, api.OK},
		{least(), read(0, 1), nil, api.ErrNone},
	} {
		if w, e := Where(x.s, x.w); !slices.Equal(w, x.want) || e != x.e {
			t.Errorf("%d: Where = %v, %d", i, w, e)
		}
	}
}

// P2.4: Ahead, with the numbers of wedges that it takes.
func TestAhead(t *testing.T) {
	still := servoT()
	still.Move = 0
	for i, x := range []struct {
		s    api.Servo
		w    []api.Wedge
		more int
		want []api.Span
	}{
		{servoS(), wedgesW(), 0, []api.Span{span(6, 8)}},
		{servoS(), wedgesW(), 1, []api.Span{span(4, 10)}},
		{servoS(), wedgesW(), 2, []api.Span{span(2, 12)}},
		{servoS(), wedgesW(), 24, []api.Span{span(0, 12)}},
		{servoS(), nil, 0, []api.Span{span(0, 12)}},
		{servoS(), nil, 24, []api.Span{span(0, 12)}},
		{still, read(0, 0, 2, 0), 24, []api.Span{span(0, 1), span(12, 12)}},
		{servoS(), slices.Repeat([]api.Wedge{none}, api.MaxWedges), 24, []api.Span{span(0, 12)}},
	} {
		if w, e := Ahead(x.s, x.w, x.more); !slices.Equal(w, x.want) || e != api.OK {
			t.Errorf("%d: Ahead by %d = %v, %d", i, x.more, w, e)
		}
	}
}

// P2.3, P2.4, P2.10: where the head can be is where a possible path ends, of all that there are, over the wedges and those to come.
func TestNeverElsewhere(t *testing.T) {
	for i, x := range all() {
		wedges := x.wedges
		for more := range 3 {
			want := truthOf(x.s, wedges)
			spans, e := Ahead(x.s, x.wedges, more)
			if e != want.error() {
				t.Fatalf("%d: Ahead by %d of %v: %d", i, more, x, e)
			}
			holdSpans(t, "Ahead", spans, want.ends)
			if more == 0 {
				where, e := Where(x.s, x.wedges)
				if e != want.error() {
					t.Fatalf("%d: Where of %v: %d", i, x, e)
				}
				holdSpans(t, "Where", where, want.ends)
			}
			if len(wedges) > 3 {
				break
			}
			wedges = append(slices.Clone(wedges), none)
		}
	}
}

// P2.5: Gate, with the ends of what it allows.
func TestGate(t *testing.T) {
	still := api.Servo{Tracks: 3, Step: 4, Runout: []int{0, 2, 1}}
	steady := api.Servo{Tracks: 3, Step: 4, Runout: []int{0}}
	slow := api.Servo{Tracks: 64, Step: 16, Move: 1, Runout: []int{0}}
	later, latest := slow, slow
	later.Runout, latest.Runout = []int{6}, []int{7}
	early := api.Servo{Tracks: 1, Step: 4, Runout: []int{1, 0, 0, 0, 2}}
	for i, x := range []struct {
		s            api.Servo
		w            []api.Wedge
		track, limit int
		want         int
	}{
		{servoS(), wedgesW(), 2, 2, 1},
		{servoS(), wedgesW(), 2, 5, 2},
		{servoS(), wedgesW(), 2, 1, 0},
		{servoS(), wedgesW(), 0, 16, api.MaxWedges},
		{servoS(), wedgesW(), 0, 7, 0},
		{servoS(), wedgesW(), 0, 8, 1},
		{steady, read(1, 0), 1, 0, api.MaxWedges},
		{still, read(1, 0), 1, 0, 1},
		{still, read(1, 0), 1, 1, 1},
		{still, read(1, 0), 1, 2, api.MaxWedges},
		{still, append(read(1, 0), none, none), 1, 0, 0}, // the third wedge was the last, and its track has moved
		{still, append(read(1, 0), none, none), 1, 1, 2},
		{slow, read(0, 0), 0, 16, 17},
		{later, read(0, -6), 0, 16, api.MaxWedges - 1},
		{latest, read(0, -7), 0, 16, api.MaxWedges},
		{early, nil, 0, 0, 0}, // without wedges the next ones lie at 1, 1, 0, 0, 0 and 2
		{early, nil, 0, 1, 5},
		{early, read(0, -1), 0, 1, 4},
		{early, nil, 0, 2, api.MaxWedges},
		{servoS(), nil, 1, 8, api.MaxWedges},
		{servoS(), nil, 1, 7, 0},
		{servoS(), nil, 3, 16, api.MaxWedges},
	} {
		if n, e := Gate(x.s, x.w, x.track, x.limit); n != x.want || e != api.OK {
			t.Errorf("%d: Gate = %d, %d", i, n, e)
		}
	}
}

// P2.5, P2.11: as long as Gate says each position that Ahead gives is near the track, and then some is not.
func TestWritingIsSure(t *testing.T) {
	for i, x := range all() {
		track, limit := i%x.s.Tracks, i/3%9
		gate, e := Gate(x.s, x.wedges, track, limit)
		if want := truthOf(x.s, x.wedges).error(); e != want {
			t.Fatalf("%d: Gate of %v: %d", i, x, e)
		}
		if e != api.OK {
			continue
		}
		for k := 0; k <= gate && k < api.MaxWedges; k++ {
			at := placed(x.s, track, max(len(x.wedges)-1+k, 0))
			spans, _ := Ahead(x.s, x.wedges, k)
			sure := true
			for _, s := range spans {
				sure = sure && distance(s.Low, at) <= limit && distance(s.High, at) <= limit
			}
			if sure != (k < gate) {
				t.Fatalf("%d: Gate of %v for %d within %d = %d, but Ahead by %d is %v", i, x, track, limit, gate, k, spans)
			}
		}
	}
}

// P2.11: on every path that goes on from a possible one the head is near the track as long as Gate says.
func TestEveryPathOn(t *testing.T) {
	sure := 0
	for i, x := range all() {
		if len(x.wedges) == 0 || len(x.wedges) > 2 {
			continue
		}
		track, limit := i%x.s.Tracks, i%5
		gate, _ := Gate(x.s, x.wedges, track, limit)
		sure += gate
		on := min(gate, 3) - 1
		for path := range paths(x.s, len(x.wedges)+max(on, 0)) {
			if gate == 0 || wrong(x.s, x.wedges, path) > x.s.Wrong {
				continue
			}
			for k := 0; k <= on; k++ {
				now := len(x.wedges) - 1 + k
				if distance(path[now], placed(x.s, track, now)) > limit {
					t.Fatalf("%d: Gate of %v for %d within %d = %d, but not on %v", i, x, track, limit, gate, path)
				}
			}
		}
	}
	if sure == 0 {
		t.Error("no writing was sure")
	}
}

// P2.6: Blame.
func TestBlame(t *testing.T) {
	for i, x := range []struct {
		s    api.Servo
		w    []api.Wedge
		want []int
	}{
		{servoT(), wedgesV(), []int{1}},
		{servoT(), wedgesW(), nil},
		{servoS(), wedgesW(), nil},
		{servoS(), nil, nil},
		{servoT(), []api.Wedge{none, none}, nil},
		{servoT(), read(2, 0, -1, 100, 0, 0, 1, -2, 1, 0), []int{0}},
		{servoT(), read(1, 0, 1, 0, 100, 0), []int{2}},
		{servoT(), read(1, 0, 2, 0), nil}, // either of the two can be wrong
		{servoT(), read(6, 0), []int{0}},
	} {
		if b, e := Blame(x.s, x.w); !slices.Equal(b, x.want) || e != api.OK {
			t.Errorf("%d: Blame = %v, %d", i, b, e)
		}
	}
}

// P2.7: Fewest.
func TestFewest(t *testing.T) {
	for i, x := range []struct {
		s    api.Servo
		w    []api.Wedge
		want int
	}{
		{servoS(), wedgesW(), 0},
		{servoS(), wedgesV(), 1},
		{servoT(), wedgesV(), 1},
		{servoS(), nil, 0},
		{servoS(), []api.Wedge{none}, 0},
		{servoS(), read(6, 0, 5, 0, 4, 0), 3},
		{servoS(), read(0, 0, 2, 0, 0, 0, 2, 0), 2},
		{servoS(), read(0, 50), 1},
	} {
		if n, e := Fewest(x.s, x.w); n != x.want || e != api.OK {
			t.Errorf("%d: Fewest = %d, %d", i, n, e)
		}
	}
}

// P2.6, P2.7, P2.10: Blame names just the wedges that agree in no possible path, of all that there are, and no path has fewer wrong wedges than Fewest.
func TestBlameAndFewest(t *testing.T) {
	for i, x := range all() {
		want := truthOf(x.s, x.wedges)
		if b, e := Blame(x.s, x.wedges); !slices.Equal(b, want.blame()) || e != want.error() {
			t.Fatalf("%d: Blame of %v = %v, %d, not %v, %d", i, x, b, e, want.blame(), want.error())
		}
		if n, e := Fewest(x.s, x.wedges); n != want.fewest || e != api.OK {
			t.Fatalf("%d: Fewest of %v = %d, %d, not %d", i, x, n, e, want.fewest)
		}
	}
}

// holdPath fails unless a path is possible and ends at a position.
func holdPath(t *testing.T, x scene, path []int, end int) {
	t.Helper()
	if len(path) != len(x.wedges) || path[len(path)-1] != end {
		t.Fatalf("Trace of %v to %d = %v", x, end, path)
	}
	for i, p := range path {
		if p < 0 || p > lastPosition(x.s) || i > 0 && distance(p, path[i-1]) > x.s.Move {
			t.Fatalf("Trace of %v to %d = %v, no path", x, end, path)
		}
	}
	if wrong(x.s, x.wedges, path) > x.s.Wrong {
		t.Fatalf("Trace of %v to %d = %v, which is not possible", x, end, path)
	}
}

// P2.8, P2.12: there is a path to each position where the head can be, and to no other.
func TestTrace(t *testing.T) {
	scenes := append(all(), scene{servoS(), wedgesW()}, scene{servoT(), wedgesV()}, scene{servoS(), wedgesV()}, scene{least(), read(0, 0)})
	for i, x := range scenes {
		where, _ := Where(x.s, x.wedges)
		for p := -1; p <= lastPosition(x.s)+1; p++ {
			path, e := Trace(x.s, x.wedges, p)
			want := api.OK
			if p < 0 || p > lastPosition(x.s) || len(x.wedges) == 0 {
				want = api.ErrArg
			} else if !inside(where, p) {
				want = api.ErrNone
			}
			if e != want || e != api.OK && len(path) != 0 {
				t.Fatalf("%d: Trace of %v to %d = %v, %d, not %d", i, x, p, path, e, want)
			}
			if e == api.OK {
				holdPath(t, x, path, p)
			}
		}
	}
}

// P2.8: Trace over the most wedges of the largest servo, of which three were misread.
func TestTraceFar(t *testing.T) {
	s := largest()
	var wedges []api.Wedge
	for i := range api.MaxWedges {
		track := 2 * i
		code := track ^ track/2
		if i%8 == 5 {
			code ^= 64
		}
		wedges = append(wedges, api.Wedge{Code: code, Burst: i % 5})
	}
	where, e := Where(s, wedges)
	if len(where) == 0 || e != api.OK {
		t.Fatalf("Where = %v, %d", where, e)
	}
	for _, w := range where {
		for _, end := range []int{w.Low, w.High} {
			path, e := Trace(s, wedges, end)
			if e != api.OK {
				t.Fatalf("Trace to %d: %d", end, e)
			}
			holdPath(t, scene{s, wedges}, path, end)
		}
	}
	if b, e := Blame(s, wedges); !slices.Equal(b, []int{5, 13, 21}) || e != api.OK {
		t.Errorf("Blame = %v, %d", b, e)
	}
}

// subset fails unless all positions of some spans are in others.
func subset(t *testing.T, name string, x scene, few, many []api.Span) {
	t.Helper()
	for _, s := range few {
		for p := s.Low; p <= s.High; p++ {
			if !inside(many, p) {
				t.Fatalf("%s of %v: %v is not within %v", name, x, few, many)
			}
		}
	}
}

// P2.13: one more wedge of which nothing was read leads to where Ahead does.
func TestOneMoreWedge(t *testing.T) {
	for i, x := range all() {
		ahead, e := Ahead(x.s, x.wedges, 1)
		where, f := Where(x.s, append(slices.Clone(x.wedges), none))
		if !slices.Equal(where, ahead) || e != f {
			t.Fatalf("%d: Where of %v and one more = %v, %d; Ahead by 1 = %v, %d", i, x, where, f, ahead, e)
		}
	}
}

// P2.13: with a greater Move, Noise or Wrong no position is lost, and what was read instead of nothing wins none.
func TestKnowingLess(t *testing.T) {
	for _, x := range all() {
		where, _ := Where(x.s, x.wedges)
		for _, change := range []func(s *api.Servo){
			func(s *api.Servo) { s.Move++ },
			func(s *api.Servo) { s.Noise++ },
			func(s *api.Servo) { s.Wrong++ },
		} {
			s := x.s
			change(&s)
			more, _ := Where(s, x.wedges)
			subset(t, "more", x, where, more)
		}
		for i := range x.wedges {
			unread := slices.Clone(x.wedges)
			unread[i] = none
			more, _ := Where(x.s, unread)
			subset(t, "unread", x, where, more)
		}
	}
}

// P2.14: once Wrong + 1 wedges were read and agree with a path, all of Where is near its end, whatever was read before.
func TestFoundAgain(t *testing.T) {
	r := rand.New(rand.NewPCG(14, 2))
	found := 0
	for range 3000 {
		x := wander(r, 4)
		last := x.wedges[len(x.wedges)-x.s.Wrong-1:]
		if slices.ContainsFunc(last, func(w api.Wedge) bool { return w.Code == -1 }) {
			continue
		}
		where, _ := Where(x.s, x.wedges)
		for path := range paths(x.s, len(x.wedges)) {
			agree := true
			for i := len(x.wedges) - len(last); i < len(x.wedges); i++ {
				agree = agree && matches(x.s, x.wedges[i], i, path[i])
			}
			if !agree {
				continue
			}
			for _, s := range where {
				found++
				end, bound := path[len(path)-1], 2*x.s.Noise+2*x.s.Move*x.s.Wrong
				if distance(s.Low, end) > bound || distance(s.High, end) > bound {
					t.Fatalf("Where of %v = %v is further than %d from the end of %v", x, where, bound, path)
				}
			}
		}
	}
	if found == 0 {
		t.Error("no track was found again")
	}
}
