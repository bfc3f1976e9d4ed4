package servo

import (
	"slices"

	"platter/api"
)

const (
	nothing  = -1 // the code of a wedge at which nothing was read
	maxCode  = 2*api.MaxTracks - 1
	maxBurst = 100
)

// head is what is known of a head: its servo, and the wedges that it has passed.
//
// Its methods count faults: a slice of faults holds, for each position, the fewest wedges that do not agree with their positions on any path through it.
type head struct {
	api.Servo
	wedges []api.Wedge
}

func known(s api.Servo, wedges []api.Wedge) (head, api.Errno) {
	if !valid(s) {
		return head{}, api.ErrServo
	}
	wrong := func(w api.Wedge) bool {
		return !within(w.Code, nothing, maxCode) || !within(w.Burst, -maxBurst, maxBurst)
	}
	if len(wedges) > api.MaxWedges || slices.ContainsFunc(wedges, wrong) {
		return head{}, api.ErrRead
	}
	return head{s, wedges}, api.OK
}

func valid(s api.Servo) bool {
	far := func(steps int) bool { return !within(steps, -api.MaxStep, api.MaxStep) }
	return within(s.Tracks, 1, api.MaxTracks) && within(s.Step, 1, api.MaxStep) &&
		within(s.Move, 0, api.MaxMove) && within(s.Noise, 0, api.MaxNoise) && within(s.Wrong, 0, api.MaxMisses) &&
		within(len(s.Runout), 1, api.MaxTurn) && !slices.ContainsFunc(s.Runout, far)
}

func within(n, low, high int) bool { return low <= n && n <= high }

// positions returns how many positions there are.
func (h head) positions() int { return h.Step*(h.Tracks-1) + 1 }

// lies returns the step at which a track lies at the wedge i.
func (h head) lies(track, i int) int { return track*h.Step + h.Runout[i%len(h.Runout)] }

// agrees returns a closure that tells whether the wedge i agrees with a position.
func (h head) agrees(i int) func(position int) bool {
	w := h.wedges[i]
	if w.Code == nothing {
		return func(int) bool { return true }
	}
	track, _ := Track(w.Code)
	if track >= h.Tracks {
		return func(int) bool { return false }
	}
	at := h.lies(track, i)
	return func(position int) bool {
		off := position - at
		return within(2*off, -h.Step, h.Step) && within(w.Burst-off, -h.Noise, h.Noise)
	}
}

// moved returns the faults one wedge further along the paths, before that wedge is judged. Paths move alike in both directions.
func (h head) moved(faults []int) []int {
	moved := make([]int, len(faults))
	for p := range faults {
		moved[p] = slices.Min(faults[max(p-h.Move, 0):min(p+h.Move+1, len(faults))])
	}
	return moved
}

// judged returns the faults with that of the wedge i.
func (h head) judged(faults []int, i int) []int {
	judged := slices.Clone(faults)
	agrees := h.agrees(i)
	for p := range judged {
		if !agrees(p) {
			judged[p]++
		}
	}
	return judged
}

// before returns, for each wedge, the faults of the wedges before it.
func (h head) before() [][]int {
	all := make([][]int, len(h.wedges))
	f := make([]int, h.positions())
	for i := range all {
		all[i] = f
		f = h.moved(h.judged(f, i))
	}
	return all
}

// behind returns, for each wedge, the faults of the wedges behind it.
func (h head) behind() [][]int {
	all := make([][]int, len(h.wedges))
	f := make([]int, h.positions())
	for i := range slices.Backward(all) {
		all[i] = f
		f = h.moved(h.judged(f, i))
	}
	return all
}

// faults returns the faults of all wedges, by where the paths end.
func (h head) faults() []int {
	last := len(h.wedges) - 1
	if last < 0 {
		return make([]int, h.positions())
	}
	return h.judged(h.before()[last], last)
}

// now returns the faults of all wedges, and ErrNone if no path is possible.
func (h head) now() ([]int, api.Errno) {
	f := h.faults()
	if slices.Min(f) > h.Wrong {
		return nil, api.ErrNone
	}
	return f, api.OK
}

// spans returns the positions that some possible path leads to.
func (h head) spans(faults []int) []api.Span {
	var spans []api.Span
	for p, n := range faults {
		if n > h.Wrong {
			continue
		}
		if last := len(spans) - 1; last >= 0 && spans[last].High == p-1 {
			spans[last].High = p
		} else {
			spans = append(spans, api.Span{Low: p, High: p})
		}
	}
	return spans
}

// near tells whether each position that some possible path leads to is within so many steps of a place.
func (h head) near(faults []int, place, limit int) bool {
	for p, n := range faults {
		if n <= h.Wrong && !within(p-place, -limit, limit) {
			return false
		}
	}
	return true
}

// path returns a path with the fewest faults that ends at a position.
func (h head) path(end int) []int {
	path := make([]int, len(h.wedges))
	before := h.before()
	p := end
	for i := range slices.Backward(path) {
		path[i] = p
		if i > 0 {
			p = h.from(h.judged(before[i-1], i-1), p)
		}
	}
	return path
}

// from returns the first position with the fewest faults from which the head can move to a position.
func (h head) from(faults []int, to int) int {
	best := max(to-h.Move, 0)
	for p := best; p <= min(to+h.Move, len(faults)-1); p++ {
		if faults[p] < faults[best] {
			best = p
		}
	}
	return best
}
