package queue

import (
	"math/rand/v2"
	"slices"
	"testing"

	"platter/api"
	"platter/arm"
)

// mover is an arm that can go from each of some cylinders to each other one. It is given a step at each tick.
type mover struct {
	api.Arm
	positions []int
	stays     [][]api.Spot
	seeks     []api.Span
}

// moverOf returns an arm with so many cylinders, unless it is lost between some of them. Without shocks its seeks are those of its table; otherwise they begin in any state in which it can stay, and shocks may let it be there earlier.
func moverOf(a api.Arm, cylinders, pitch int) (m mover, found bool) {
	m = mover{Arm: a}
	for c := range cylinders {
		position := a.Gate + c*pitch
		l, e := arm.Stays(a, position)
		if e != api.OK || len(l) == 0 {
			return m, false
		}
		m.positions, m.stays = append(m.positions, position), append(m.stays, l)
	}
	table, e := arm.Table(a)
	m.seeks = slices.Repeat([]api.Span{span(api.MaxSeek, 0)}, cylinders)
	for c, from := range m.positions {
		for to, target := range m.positions {
			s := &m.seeks[max(to-c, c-to)]
			steps := table[from][target]
			if e != api.OK || steps < 0 {
				return m, false
			}
			s.Low, s.High = min(s.Low, steps), max(s.High, steps)
			for _, state := range m.stays[c] {
				if steps, _, e = arm.Steps(a, target, state); e != api.OK {
					return m, false
				}
				s.High = max(s.High, steps)
			}
			if a.Shake > 0 {
				s.Low = 0
			}
		}
	}
	return m, true
}

// ride is a mover that serves requests: the state of its arm, the cylinder that it follows, and the time.
type ride struct {
	mover
	t        *testing.T
	r        *rand.Rand
	at       api.Spot
	cylinder int
	time     int
}

// shaken returns the states of the arm after each of so many steps with any shocks.
func (x *ride) shaken(steps int) []api.Spot {
	x.t.Helper()
	shocks := make([]int, steps)
	for i := range shocks {
		shocks[i] = x.r.IntN(2*x.Shake+1) - x.Shake
	}
	states, e := arm.Run(x.Arm, x.positions[x.cylinder], x.at, shocks)
	if e != api.OK || len(states) != steps {
		x.t.Fatalf("Run of %v from %v to the cylinder %d: %d", x.Arm, x.at, x.cylinder, e)
	}
	return states
}

// stay lets so many ticks pass, in each of which the arm must be on its track.
func (x *ride) stay(ticks int) {
	x.t.Helper()
	for ; ticks > 0; ticks -= api.MaxRun {
		for _, s := range x.shaken(min(ticks, api.MaxRun)) {
			off := s.At - x.positions[x.cylinder]
			if max(off, -off) > x.Gate || max(s.Speed, -s.Speed) > x.Slow {
				x.t.Fatalf("the arm %v is at %v, not on the track of the cylinder %d", x.Arm, s, x.cylinder)
			}
			x.at = s
			x.time++
		}
	}
}

// seek moves the arm until it is there.
func (x *ride) seek(cylinder int) {
	x.t.Helper()
	x.cylinder = cylinder
	steps, _, e := arm.Steps(x.Arm, x.positions[cylinder], x.at)
	if e != api.OK {
		x.t.Fatalf("Steps of %v to the cylinder %d from %v: %d", x.Arm, cylinder, x.at, e)
	}
	states := append([]api.Spot{x.at}, x.shaken(steps)...)
	there := func(s api.Spot) bool { return slices.Contains(x.stays[cylinder], s) }
	n := slices.IndexFunc(states, there)
	if n < 0 {
		x.t.Fatalf("the arm %v is not at the cylinder %d after %d steps from %v", x.Arm, cylinder, steps, x.at)
	}
	x.at = states[n]
	x.time += n
}

// serve serves the requests of a queue in an order, and returns when each of them ends.
func (x *ride) serve(q api.Queue, order []int) []int {
	x.t.Helper()
	m := modelOf(q)
	ends := make([]int, len(order))
	for _, i := range order {
		request := q.Requests[i]
		x.stay(request.At - x.time)
		x.seek(m.cylinders[request.From])
		for n := request.From; n < request.From+request.Count; n++ {
			switch {
			case m.cylinders[n] != x.cylinder:
				x.seek(m.cylinders[n])
			case n > request.From && m.tracks[n] != m.tracks[n-1]:
				x.stay(x.r.IntN(q.Disk.HeadSwitch.High-q.Disk.HeadSwitch.Low+1) + q.Disk.HeadSwitch.Low)
			}
			x.stay(m.waited(n, x.time) - x.time + m.ticks[n])
		}
		ends[i] = x.time
	}
	return ends
}

// anyMover returns an arm with such shocks that can reach all of some cylinders, some of them not at once.
func anyMover(r *rand.Rand, shake int) mover {
	for {
		cylinders := 2 + r.IntN(3)
		a := api.Arm{Speed: 1 + r.IntN(4), Force: 1 + r.IntN(api.MaxForce), Shake: shake}
		if shake > 0 {
			a.Gate, a.Slow = 1+r.IntN(3), r.IntN(a.Speed+1)
		}
		pitch := a.Gate + 1 + r.IntN(3)
		a.Last = 2*a.Gate + (cylinders-1)*pitch
		if m, found := moverOf(a, cylinders, pitch); found && m.seeks[1].High > 0 {
			return m
		}
	}
}

// P0.6: requests that are served with the seeks of an arm's table end within their spans, and the arm stays on each track, whatever its shocks are.
func TestRealSeeks(t *testing.T) {
	r := rand.New(rand.NewPCG(7, 10))
	counts := [2]int{}
	for i := range 60 {
		m := anyMover(r, i%2)
		q := anyQueue(r, 5)
		q.Disk.Zones = []api.Zone{{Cylinders: len(m.seeks), Sectors: 1 + r.IntN(4)}}
		q.Disk.CylSwitch = m.seeks[1]
		q.Seeks, q.Cylinder = m.seeks, r.IntN(len(m.seeks))
		size := q.Disk.Heads * len(m.seeks) * q.Disk.Zones[0].Sectors
		for i := range q.Requests {
			x := &q.Requests[i]
			x.From = r.IntN(size)
			x.Count = 1 + r.IntN(min(size-x.From, 6))
		}
		order := bestOf(t, q).order
		spans := endsOf(t, q, order)
		for range 3 {
			states := m.stays[q.Cylinder]
			x := &ride{mover: m, t: t, r: r, at: states[r.IntN(len(states))], cylinder: q.Cylinder}
			for i, end := range x.serve(q, order) {
				if end < spans[i].Low || end > spans[i].High {
					t.Fatalf("Ends of %v and %v = %v, but %d ends at %d with the arm %v", q, order, spans, i, end, m.Arm)
				}
				counts[m.Shake]++
			}
		}
	}
	if counts[0] < 50 || counts[1] < 50 {
		t.Errorf("%v requests were served without and with shocks", counts)
	}
}
