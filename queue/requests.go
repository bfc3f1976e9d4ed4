package queue

import (
	"platter/api"
	"platter/zones"
)

const anyTime = -1 // the Due of a request that is to end at any time

// checked is a queue that is valid, with the task of each request.
type checked struct {
	api.Queue
	tasks []task
}

// task is what it takes to serve a request: the cylinders of its first and of its last sector, the angle at which the first one begins, and the ticks of their run.
type task struct {
	from, to, angle int
	run             api.Span
}

// heads are over a cylinder, and free at any time of a span.
type heads struct {
	api.Span
	cylinder int
}

func known(q api.Queue) (checked, api.Errno) {
	if e := zones.Check(q.Disk); e != api.OK {
		return checked{}, e
	}
	if !seeksAreSound(q) || !within(q.Passes, 0, api.MaxRequests) || len(q.Requests) > api.MaxRequests {
		return checked{}, api.ErrQueue
	}
	k := checked{Queue: q}
	came := 0
	for _, r := range q.Requests {
		t, found := taskOf(q.Disk, r)
		if !found || !within(r.At, came, api.MaxAt) || !within(r.Due, anyTime, api.MaxDue) {
			return checked{}, api.ErrQueue
		}
		came = r.At
		k.tasks = append(k.tasks, t)
	}
	return k, api.OK
}

// knownFor returns the queue if the order has each of its requests once.
func knownFor(q api.Queue, order []int) (checked, api.Errno) {
	k, e := known(q)
	if e != api.OK {
		return checked{}, e
	}
	if len(order) != len(k.Requests) {
		return checked{}, api.ErrOrder
	}
	var found [api.MaxRequests]bool
	for _, r := range order {
		if !within(r, 0, len(order)-1) || found[r] {
			return checked{}, api.ErrOrder
		}
		found[r] = true
	}
	return k, api.OK
}

func seeksAreSound(q api.Queue) bool {
	cylinders := 0
	for _, z := range q.Disk.Zones {
		cylinders += z.Cylinders
	}
	if !within(q.Cylinder, 0, cylinders-1) || len(q.Seeks) != cylinders {
		return false
	}
	for _, s := range q.Seeks {
		if !within(s.Low, 0, s.High) || s.High > api.MaxSeek {
			return false
		}
	}
	return true
}

// taskOf returns the task of a request, if all its sectors are those of the disk.
func taskOf(d api.Disk, r api.Request) (task, bool) {
	run, e := zones.Run(d, r.From, r.Count)
	if e != api.OK {
		return task{}, false
	}
	first, _ := zones.Place(d, r.From)
	last, _ := zones.Place(d, r.From+r.Count-1)
	angle, _, _ := zones.Angle(d, r.From)
	return task{first.Cylinder, last.Cylinder, angle, run}, true
}

func within(n, low, high int) bool { return low <= n && n <= high }

// start returns the heads before the first request.
func (q checked) start() heads { return heads{cylinder: q.Cylinder} }

// serve returns the heads behind a request. Whatever is later before it never ends earlier, so the ends of the span are those of what takes the least and the greatest number of ticks everywhere.
func (q checked) serve(h heads, r int) heads {
	t := q.tasks[r]
	seek := q.Seeks[max(t.from-h.cylinder, h.cylinder-t.from)]
	begins := func(free, ticks int) int {
		time := max(free, q.Requests[r].At) + ticks
		// zones.Wait is for times up to MaxTime only, and several long runs can end later.
		return time + (t.angle+q.Disk.Turn-time%q.Disk.Turn)%q.Disk.Turn
	}
	return heads{
		api.Span{Low: begins(h.Low, seek.Low) + t.run.Low, High: begins(h.High, seek.High) + t.run.High},
		t.to,
	}
}

// ends returns the ends of all requests, by their numbers, in an order.
func (q checked) ends(order []int) []api.Span {
	ends := make([]api.Span, len(order))
	h := q.start()
	for _, r := range order {
		h = q.serve(h, r)
		ends[r] = h.Span
	}
	return ends
}

// late tells whether a request is late if it ends at a time.
func (q checked) late(r, end int) bool {
	due := q.Requests[r].Due
	return due != anyTime && end > due
}
