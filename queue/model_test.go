package queue

import (
	"maps"
	"math"
	"math/rand/v2"
	"slices"

	"platter/api"
	"platter/zones"
)

func span(low, high int) api.Span { return api.Span{Low: low, High: high} }

// queueQ is the queue Q of the chapter.
func queueQ() api.Queue {
	return api.Queue{
		Disk: api.Disk{
			Heads: 2, Turn: 60, Zones: []api.Zone{{Cylinders: 2, Sectors: 6}, {Cylinders: 1, Sectors: 5}},
			HeadSkew: 10, CylSkew: 25, HeadSwitch: span(4, 12), CylSwitch: span(20, 30),
		},
		Seeks: []api.Span{span(0, 0), span(10, 40), span(15, 30)}, Passes: 2,
		Requests: []api.Request{
			{From: 30, Count: 2, Due: -1}, {From: 0, Count: 3, Due: 100}, {From: 14, Count: 1, At: 5, Due: 150}, {From: 1, Count: 2, At: 10, Due: -1, Ordered: true},
		},
	}
}

// least is a queue on the smallest disk, without requests.
func least() api.Queue {
	return api.Queue{Disk: api.Disk{Heads: 1, Turn: 1, Zones: []api.Zone{{Cylinders: 1, Sectors: 1}}}, Seeks: []api.Span{{}}}
}

// largest is a queue with so many requests, each of all sectors of the largest disk.
func largest(requests int) api.Queue {
	z := api.Zone{Cylinders: api.MaxCylinders, Sectors: api.MaxSectors}
	d := api.Disk{
		Heads: api.MaxHeads, Turn: 992, Zones: []api.Zone{z, z, z, z}, HeadSkew: 991, CylSkew: 991,
		HeadSwitch: span(0, api.MaxSwitch), CylSwitch: span(api.MaxSwitch, api.MaxSwitch),
	}
	q := api.Queue{Disk: d, Cylinder: 40, Seeks: slices.Repeat([]api.Span{span(0, api.MaxSeek)}, 80), Passes: api.MaxRequests}
	for range requests {
		q.Requests = append(q.Requests, api.Request{Count: 5120, At: api.MaxAt, Due: api.MaxDue})
	}
	return q
}

// changed returns Q of the chapter with each of some changes, in memory of its own.
func changed(changes ...func(q *api.Queue)) []api.Queue {
	var all []api.Queue
	for _, change := range changes {
		q := queueQ()
		change(&q)
		all = append(all, q)
	}
	return all
}

// brokenDisks are queues whose disk is not valid; some of them have other flaws, too.
func brokenDisks() []api.Queue {
	return changed(
		func(q *api.Queue) { q.Disk = api.Disk{} },
		func(q *api.Queue) { *q = api.Queue{} },
		func(q *api.Queue) { q.Disk.Turn = 59 },
		func(q *api.Queue) { q.Disk.Heads, q.Passes = 0, -1 },
		func(q *api.Queue) { q.Disk.HeadSwitch, q.Seeks = span(2, 1), nil },
		func(q *api.Queue) { q.Disk.Zones, q.Cylinder = nil, 99 },
		func(q *api.Queue) { q.Disk.Zones[0].Cylinders = math.MaxInt },
	)
}

// brokenQueues are queues that are not valid, but their disks are.
func brokenQueues() []api.Queue {
	all := changed(
		func(q *api.Queue) { q.Cylinder = -1 },
		func(q *api.Queue) { q.Cylinder = 3 },
		func(q *api.Queue) { q.Cylinder = math.MinInt },
		func(q *api.Queue) { q.Cylinder = math.MaxInt },
		func(q *api.Queue) { q.Seeks = nil },
		func(q *api.Queue) { q.Seeks = q.Seeks[:2] },
		func(q *api.Queue) { q.Seeks = append(q.Seeks, span(20, 40)) },
		func(q *api.Queue) { q.Seeks[0] = span(-1, 0) },
		func(q *api.Queue) { q.Seeks[1] = span(5, 4) },
		func(q *api.Queue) { q.Seeks[2] = span(0, api.MaxSeek+1) },
		func(q *api.Queue) { q.Seeks[2] = span(api.MaxSeek+1, api.MaxSeek+1) },
		func(q *api.Queue) { q.Seeks[2] = span(math.MinInt, math.MaxInt) },
		func(q *api.Queue) { q.Passes = -1 },
		func(q *api.Queue) { q.Passes = api.MaxRequests + 1 },
		func(q *api.Queue) { q.Passes = math.MaxInt },
		func(q *api.Queue) {
			q.Requests = slices.Repeat([]api.Request{{Count: 1, Due: -1}}, api.MaxRequests+1)
		},
		func(q *api.Queue) { q.Requests[1].At, q.Requests[2].At = 6, 5 },
		func(q *api.Queue) { q.Requests[0].At = 1 },
	)
	for _, change := range []func(r *api.Request){
		func(r *api.Request) { r.From = -1 },
		func(r *api.Request) { r.From, r.Count = 34, 1 },
		func(r *api.Request) { r.From, r.Count = 33, 2 },
		func(r *api.Request) { r.From, r.Count = 0, 35 },
		func(r *api.Request) { r.Count = 0 },
		func(r *api.Request) { r.Count = -1 },
		func(r *api.Request) { r.From, r.Count = math.MaxInt, math.MaxInt },
		func(r *api.Request) { r.From, r.Count = math.MinInt, math.MinInt },
		func(r *api.Request) { r.From, r.Count = 1, math.MaxInt },
		func(r *api.Request) { r.At = -1 },
		func(r *api.Request) { r.At = math.MinInt },
		func(r *api.Request) { r.Due = -2 },
		func(r *api.Request) { r.Due = api.MaxDue + 1 },
		func(r *api.Request) { r.Due = math.MinInt },
		func(r *api.Request) { r.Due = math.MaxInt },
	} {
		for i := range 4 {
			q := queueQ()
			change(&q.Requests[i])
			all = append(all, q)
		}
	}
	return append(all, changed(
		func(q *api.Queue) { q.Requests[3].At = api.MaxAt + 1 },
		func(q *api.Queue) { q.Requests[3].At = math.MaxInt },
	)...)
}

// model is what a test knows of a queue, straight from the definitions of the chapter: for each sector the track on which it is, its cylinder, and the angle at which it begins.
type model struct {
	q                     api.Queue
	tracks, cylinders, at []int
	ticks                 []int
}

func modelOf(q api.Queue) model {
	m := model{q: q}
	d := q.Disk
	cylinder, track, offset := 0, 0, 0
	for _, z := range d.Zones {
		for c := 0; c < z.Cylinders; c++ {
			for h := 0; h < d.Heads; h++ {
				for s := 0; s < z.Sectors; s++ {
					m.tracks = append(m.tracks, track)
					m.cylinders = append(m.cylinders, cylinder)
					m.at = append(m.at, (offset+s*(d.Turn/z.Sectors))%d.Turn)
					m.ticks = append(m.ticks, d.Turn/z.Sectors)
				}
				track++
				offset += d.HeadSkew
			}
			offset += d.CylSkew - d.HeadSkew
			cylinder++
		}
	}
	return m
}

// switchOf returns what the switch behind a sector takes to the next one.
func (m model) switchOf(n int) api.Span {
	switch {
	case m.tracks[n] == m.tracks[n+1]:
		return api.Span{}
	case m.cylinders[n] == m.cylinders[n+1]:
		return m.q.Disk.HeadSwitch
	}
	return m.q.Disk.CylSwitch
}

// waited returns the first time, from one on, at which a sector begins.
func (m model) waited(n, time int) int {
	for ; time%m.q.Disk.Turn != m.at[n]; time++ {
	}
	return time
}

// pace says what is taken of a span of ticks.
type pace func(s api.Span) int

func low(s api.Span) int  { return s.Low }
func high(s api.Span) int { return s.High }

// serve returns the times at which the requests end in an order, by their numbers, if seeks and switches take what the pace says; time goes by tick by tick.
func (m model) serve(order []int, takes pace) []int {
	ends := make([]int, len(order))
	time, cylinder := 0, m.q.Cylinder
	for _, r := range order {
		x := m.q.Requests[r]
		time = max(time, x.At)
		distance := m.cylinders[x.From] - cylinder
		time += takes(m.q.Seeks[max(distance, -distance)])
		for n := x.From; n < x.From+x.Count; n++ {
			if n > x.From && m.tracks[n] != m.tracks[n-1] {
				time += takes(m.switchOf(n - 1))
			}
			time = m.waited(n, time) + m.ticks[n]
			cylinder = m.cylinders[n]
		}
		ends[r] = time
	}
	return ends
}

// extremes returns the times at which the requests end in an order if everything takes the fewest and if it takes the most ticks.
func (m model) extremes(order []int) []api.Span {
	from, to := m.serve(order, low), m.serve(order, high)
	ends := make([]api.Span, len(order))
	for r := range ends {
		ends[r] = span(from[r], to[r])
	}
	return ends
}

// times is a set of times.
type times map[int]bool

// plus returns the set of the times behind any number of ticks of a span, and then behind the wait for a sector.
func (m model) plus(from times, s api.Span, n int) times {
	to := times{}
	for time := range from {
		for ticks := s.Low; ticks <= s.High; ticks++ {
			to[m.waited(n, time+ticks)] = true
		}
	}
	return to
}

// possible returns, for each request, all times at which it can end in an order.
func (m model) possible(order []int) []times {
	ends := make([]times, len(order))
	now, cylinder := times{0: true}, m.q.Cylinder
	for _, r := range order {
		x := m.q.Requests[r]
		begun := times{}
		for time := range now {
			begun[max(time, x.At)] = true
		}
		distance := m.cylinders[x.From] - cylinder
		now = m.plus(begun, m.q.Seeks[max(distance, -distance)], x.From)
		for n := x.From; n < x.From+x.Count; n++ {
			if n > x.From {
				now = m.plus(now, m.switchOf(n-1), n)
			}
			ended := times{}
			for time := range now {
				ended[time+m.ticks[n]] = true
			}
			now, cylinder = ended, m.cylinders[n]
		}
		ends[r] = now
	}
	return ends
}

// ends returns the ends of the requests in an order by all times at which they can end.
func (m model) ends(order []int) []api.Span {
	var ends []api.Span
	for _, l := range m.possible(order) {
		sorted := slices.Sorted(maps.Keys(l))
		ends = append(ends, span(sorted[0], sorted[len(sorted)-1]))
	}
	return ends
}

// permutations returns all orders of n requests, the lower request first where they differ.
func permutations(n int) [][]int {
	if n == 0 {
		return [][]int{{}}
	}
	var all [][]int
	for first := 0; first < n; first++ {
		for _, rest := range permutations(n - 1) {
			order := []int{first}
			for _, r := range rest {
				if r >= first {
					r++
				}
				order = append(order, r)
			}
			all = append(all, order)
		}
	}
	return all
}

// allowed follows the definition word by word, by the places of the requests.
func (m model) allowed(order []int, passes int) bool {
	for r, x := range m.q.Requests {
		place := slices.Index(order, r)
		behind := 0
		for o := range m.q.Requests {
			other := slices.Index(order, o)
			if x.Ordered && (place < other && o < r || place > other && o > r) {
				return false
			}
			if o > r && place > other {
				behind++
			}
		}
		if behind > passes {
			return false
		}
	}
	return true
}

// orders returns all allowed orders.
func (m model) orders(passes int) [][]int {
	var all [][]int
	for _, order := range permutations(len(m.q.Requests)) {
		if m.allowed(order, passes) {
			all = append(all, order)
		}
	}
	return all
}

func (m model) late(r, end int) bool {
	return m.q.Requests[r].Due != -1 && end > m.q.Requests[r].Due
}

// worst returns how many requests are late in an order in the worst case, and when its last request ends then.
func (m model) worst(order []int) (late, end int) {
	ends := m.extremes(order)
	for r, s := range ends {
		if m.late(r, s.High) {
			late++
		}
	}
	if len(order) > 0 {
		end = ends[order[len(order)-1]].High
	}
	return late, end
}

// best returns the best order with so many passes.
func (m model) best(passes int) (order []int, late, end int) {
	found := false
	for _, o := range m.orders(passes) {
		l, e := m.worst(o)
		if !found || l < late || l == late && e < end {
			order, late, end, found = o, l, e, true
		}
	}
	return order, late, end
}

func anySpan(r *rand.Rand, most, width int) api.Span {
	low := r.IntN(most + 1)
	return span(low, low+r.IntN(width+1))
}

// anyDisk is a small disk; its switches can lose turns.
func anyDisk(r *rand.Rand) api.Disk {
	d := api.Disk{Heads: 1 + r.IntN(2), Turn: 12, HeadSkew: r.IntN(12), CylSkew: r.IntN(12), HeadSwitch: anySpan(r, 14, 6), CylSwitch: anySpan(r, 14, 6)}
	for range 1 + r.IntN(2) {
		sectors := []int{1, 2, 3, 4, 6}[r.IntN(5)]
		d.Zones = append(d.Zones, api.Zone{Cylinders: 1 + r.IntN(3), Sectors: sectors})
	}
	return d
}

// anyQueue is a queue with at most so many requests.
func anyQueue(r *rand.Rand, most int) api.Queue {
	q := api.Queue{Disk: anyDisk(r), Passes: r.IntN(5)}
	size, _ := zones.Size(q.Disk)
	for _, z := range q.Disk.Zones {
		for range z.Cylinders {
			q.Seeks = append(q.Seeks, anySpan(r, 20, 15))
		}
	}
	q.Cylinder = r.IntN(len(q.Seeks))
	at := 0
	for range r.IntN(most + 1) {
		from := r.IntN(size)
		at += r.IntN(2) * r.IntN(30)
		x := api.Request{From: from, Count: 1 + r.IntN(min(size-from, 5)), At: at, Due: -1, Ordered: r.IntN(6) == 0}
		if r.IntN(3) > 0 {
			x.Due = r.IntN(250)
		}
		q.Requests = append(q.Requests, x)
	}
	return q
}
