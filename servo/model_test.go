package servo

import (
	"math/rand/v2"
	"slices"
	"testing"

	"platter/api"
)

// none is a wedge at which nothing was read.
var none = api.Wedge{Code: -1}

// read lists wedges from their codes and bursts.
func read(numbers ...int) []api.Wedge {
	var wedges []api.Wedge
	for i := 0; i < len(numbers); i += 2 {
		wedges = append(wedges, api.Wedge{Code: numbers[i], Burst: numbers[i+1]})
	}
	return wedges
}

func span(low, high int) api.Span { return api.Span{Low: low, High: high} }

func distance(a, b int) int { return max(a-b, b-a) }

// servoS and servoT are the servos of the chapter, wedgesW and wedgesV what they read.
func servoS() api.Servo {
	return api.Servo{Tracks: 4, Step: 4, Move: 2, Noise: 1, Runout: []int{0, 1}}
}

func servoT() api.Servo {
	s := servoS()
	s.Wrong = 1
	return s
}

func wedgesW() []api.Wedge { return read(1, 0, 1, 1, 3, -1) }
func wedgesV() []api.Wedge { return read(1, 0, 2, 0, 1, 1) }

// least is the smallest servo that there is, largest the largest one.
func least() api.Servo { return api.Servo{Tracks: 1, Step: 1, Runout: []int{0}} }

func largest() api.Servo {
	runout := make([]int, api.MaxTurn)
	for i := range runout {
		runout[i] = api.MaxStep * (1 - i%3)
	}
	return api.Servo{Tracks: api.MaxTracks, Step: api.MaxStep, Move: api.MaxMove, Noise: api.MaxNoise, Wrong: api.MaxMisses, Runout: runout}
}

// lastPosition is the last position of a servo.
func lastPosition(s api.Servo) int { return s.Step * (s.Tracks - 1) }

// placed is where a track lies at a wedge.
func placed(s api.Servo, track, wedge int) int {
	return track*s.Step + s.Runout[wedge%len(s.Runout)]
}

// matches says whether a wedge agrees with a position, by trying all tracks of the servo one by one.
func matches(s api.Servo, w api.Wedge, wedge, position int) bool {
	if w.Code == -1 {
		return true
	}
	for t := range s.Tracks {
		off := position - placed(s, t, wedge)
		if w.Code == t^(t/2) && distance(off, 0)*2 <= s.Step && distance(w.Burst, off) <= s.Noise {
			return true
		}
	}
	return false
}

// wrong counts the wedges that do not agree with the positions of a path.
func wrong(s api.Servo, wedges []api.Wedge, path []int) int {
	n := 0
	for i, w := range wedges {
		if !matches(s, w, i, path[i]) {
			n++
		}
	}
	return n
}

// paths yields all paths over so many wedges. A path that is yielded is valid only until the next one.
func paths(s api.Servo, wedges int) func(yield func([]int) bool) {
	return func(yield func([]int) bool) {
		path := make([]int, 0, wedges)
		var grow func() bool
		grow = func() bool {
			if len(path) == wedges {
				return yield(path)
			}
			for p := 0; p <= lastPosition(s); p++ {
				if n := len(path); n > 0 && distance(p, path[n-1]) > s.Move {
					continue
				}
				path = append(path, p)
				if !grow() {
					return false
				}
				path = path[:len(path)-1]
			}
			return true
		}
		grow()
	}
}

// truth is what follows for wedges from all paths, tried one by one.
type truth struct {
	ends   []bool // by position: whether some possible path ends there
	agreed []bool // by wedge: whether it agrees in some possible path
	fewest int
}

func truthOf(s api.Servo, wedges []api.Wedge) truth {
	all := truth{make([]bool, lastPosition(s)+1), make([]bool, len(wedges)), len(wedges)}
	if len(wedges) == 0 {
		for p := range all.ends {
			all.ends[p] = true
		}
	}
	for path := range paths(s, len(wedges)) {
		n := wrong(s, wedges, path)
		all.fewest = min(all.fewest, n)
		if n > s.Wrong {
			continue
		}
		for i, w := range wedges {
			all.agreed[i] = all.agreed[i] || matches(s, w, i, path[i])
		}
		if len(path) > 0 {
			all.ends[path[len(path)-1]] = true
		}
	}
	return all
}

// error is what functions return that ask for a possible path.
func (t truth) error() api.Errno {
	if slices.Contains(t.ends, true) {
		return api.OK
	}
	return api.ErrNone
}

// blame lists the wedges that agree in no possible path, if there is one.
func (t truth) blame() []int {
	var blamed []int
	for i, agreed := range t.agreed {
		if !agreed && t.error() == api.OK {
			blamed = append(blamed, i)
		}
	}
	return blamed
}

// scene is a servo and what it read.
type scene struct {
	s      api.Servo
	wedges []api.Wedge
}

// all are scenes that are small enough to try all paths: each wedge that two small servos can read, and heads that wander over others.
func all() []scene {
	var all []scene
	for _, s := range []api.Servo{
		{Tracks: 2, Step: 2, Move: 1, Noise: 0, Wrong: 1, Runout: []int{0, 1}},
		{Tracks: 3, Step: 1, Move: 1, Noise: 1, Wrong: 0, Runout: []int{0}},
	} {
		for i := range 9 * 9 * 9 {
			all = append(all, scene{s, read(i%9%3-1, i%9/3-1, i/9%9%3-1, i/9%9/3-1, i/81%3-1, i/81/3-1)})
		}
	}
	r := rand.New(rand.NewPCG(2, 14))
	for range 3000 {
		all = append(all, wander(r, r.IntN(5)))
	}
	return all
}

// wander lets a head wander over a small servo, which reads some wedges rightly, some not at all, and some as anything.
func wander(r *rand.Rand, wedges int) scene {
	s := api.Servo{Tracks: 1 + r.IntN(4), Step: 1 + r.IntN(4), Move: r.IntN(4), Noise: r.IntN(3), Wrong: r.IntN(3)}
	for range 1 + r.IntN(3) {
		s.Runout = append(s.Runout, r.IntN(5)-2)
	}
	var list []api.Wedge
	p := r.IntN(lastPosition(s) + 1)
	for i := range wedges {
		w := none
		switch r.IntN(5) {
		case 0:
		case 1:
			w = api.Wedge{Code: r.IntN(9), Burst: r.IntN(9) - 4}
		default:
			for t := range s.Tracks {
				if off := p - placed(s, t, i); distance(off, 0)*2 <= s.Step {
					w = api.Wedge{Code: t ^ t/2, Burst: off + r.IntN(2*s.Noise+1) - s.Noise}
				}
			}
		}
		list = append(list, w)
		p = min(max(p+r.IntN(2*s.Move+1)-s.Move, 0), lastPosition(s))
	}
	return scene{s, list}
}

// inside says whether a position is in a span.
func inside(spans []api.Span, p int) bool {
	return slices.ContainsFunc(spans, func(s api.Span) bool { return s.Low <= p && p <= s.High })
}

// holdSpans fails unless spans are as few as possible and hold just the positions that are wanted.
func holdSpans(t *testing.T, name string, spans []api.Span, want []bool) {
	t.Helper()
	for i, s := range spans {
		if s.Low > s.High || i > 0 && s.Low <= spans[i-1].High+1 {
			t.Fatalf("%s: the spans %v are not apart", name, spans)
		}
	}
	for p := -1; p <= len(want); p++ {
		if inside(spans, p) != (p >= 0 && p < len(want) && want[p]) {
			t.Fatalf("%s: the spans %v are wrong at %d", name, spans, p)
		}
	}
}

// broken returns servos each of which is not valid for one reason.
func broken() []api.Servo {
	all := []api.Servo{{}}
	for _, change := range []func(s *api.Servo){
		func(s *api.Servo) { s.Tracks = 0 },
		func(s *api.Servo) { s.Tracks = -1 },
		func(s *api.Servo) { s.Tracks = api.MaxTracks + 1 },
		func(s *api.Servo) { s.Step = 0 },
		func(s *api.Servo) { s.Step = -4 },
		func(s *api.Servo) { s.Step = api.MaxStep + 1 },
		func(s *api.Servo) { s.Move = -1 },
		func(s *api.Servo) { s.Move = api.MaxMove + 1 },
		func(s *api.Servo) { s.Noise = -1 },
		func(s *api.Servo) { s.Noise = api.MaxNoise + 1 },
		func(s *api.Servo) { s.Wrong = -1 },
		func(s *api.Servo) { s.Wrong = api.MaxMisses + 1 },
		func(s *api.Servo) { s.Runout = nil },
		func(s *api.Servo) { s.Runout = []int{} },
		func(s *api.Servo) { s.Runout = make([]int, api.MaxTurn+1) },
		func(s *api.Servo) { s.Runout = []int{0, api.MaxStep + 1} },
		func(s *api.Servo) { s.Runout = []int{-api.MaxStep - 1, 0} },
	} {
		s := servoT()
		change(&s)
		all = append(all, s)
	}
	return all
}

// unreadable returns wedges each list of which is not valid for one reason.
func unreadable() [][]api.Wedge {
	return [][]api.Wedge{
		make([]api.Wedge, api.MaxWedges+1),
		read(-2, 0),
		read(2*api.MaxTracks, 0),
		read(0, -101),
		read(0, 101),
		read(-1, 101),
		read(-1, -101),
		read(1, 0, -1, 0, 128, 0),
	}
}
