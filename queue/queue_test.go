package queue

import (
	"math"
	"slices"
	"testing"

	"platter/api"
)

// P7.1: Check, at the ends of what it allows and beyond them.
func TestCheck(t *testing.T) {
	plain := queueQ()
	plain.Requests, plain.Passes, plain.Cylinder = nil, 0, 2
	shared := queueQ()
	shared.Requests = slices.Repeat([]api.Request{{From: 33, Count: 1, At: api.MaxAt, Due: api.MaxDue, Ordered: true}}, api.MaxRequests)
	shared.Passes = api.MaxRequests
	all := queueQ()
	all.Requests = []api.Request{{Count: 34}, {From: 33, Count: 1}, {Count: 1, Due: -1}}
	for i, q := range []api.Queue{queueQ(), plain, shared, all, least(), largest(api.MaxRequests)} {
		if e := Check(q); e != api.OK {
			t.Errorf("%d: Check of %v = %d", i, q, e)
		}
	}
	for i, q := range brokenQueues() {
		if e := Check(q); e != api.ErrQueue {
			t.Errorf("%d: Check of %v = %d", i, q, e)
		}
	}
	for i, q := range brokenDisks() {
		if e := Check(q); e != api.ErrDisk {
			t.Errorf("%d: Check of %v = %d", i, q, e)
		}
	}
}

// call is a call of a function for a queue; it returns its error, and whether its other results are their zero values.
type call struct {
	name string
	of   func(q api.Queue) (zero bool, e api.Errno)
}

// orderCalls are calls of the functions that have an order.
func orderCalls(order []int) []call {
	return []call{
		{"Allowed", func(q api.Queue) (bool, api.Errno) { is, e := Allowed(q, order); return !is, e }},
		{"Ends", func(q api.Queue) (bool, api.Errno) { l, e := Ends(q, order); return len(l) == 0, e }},
	}
}

func boundCall(request int) call {
	return call{"Bound", func(q api.Queue) (bool, api.Errno) { n, e := Bound(q, request); return n == 0, e }}
}

func firstCall() call {
	return call{"First", func(q api.Queue) (bool, api.Errno) { n, e := First(q); return n == 0, e }}
}

// plainCalls are calls of the functions that have the queue as their only argument.
func plainCalls() []call {
	return []call{firstCall(),
		{"Order", func(q api.Queue) (bool, api.Errno) {
			l, late, end, e := Order(q)
			return len(l) == 0 && late == 0 && end == 0, e
		}},
		{"Sure", func(q api.Queue) (bool, api.Errno) { l, e := Sure(q); return len(l) == 0, e }},
		{"Tight", func(q api.Queue) (bool, api.Errno) { n, e := Tight(q); return n == 0, e }},
	}
}

// badOrders have not each of four requests once, badRequests are none of the four.
func badOrders() [][]int {
	return [][]int{
		nil, {0}, {0, 1, 2}, {0, 1, 2, 3, 3}, {0, 1, 2, 3, 4}, {0, 1, 2, 2}, {0, 0, 0, 0}, {3, 2, 1, 3}, {0, 1, 2, 4}, {-1, 0, 1, 2}, {1, 2, 3, 4},
		{0, 1, 2, math.MaxInt}, {math.MinInt, 1, 2, 3}, {0, 1, 2, 6}, {0, 1, 2, 3, 4, 5, 6}, make([]int, 1000),
	}
}

func badRequests() []int { return []int{-1, 4, 5, 6, math.MinInt, math.MaxInt} }

func hold(t *testing.T, c call, q api.Queue, want api.Errno) {
	t.Helper()
	if zero, e := c.of(q); e != want || !zero {
		t.Errorf("%s of %v: the error is %d, not %d; zero: %v", c.name, q, e, want, zero)
	}
}

// P1, P7.2 to P7.8, R1, R2: ErrDisk is the first error of each function, ErrQueue the second one.
func TestErrDiskAndQueue(t *testing.T) {
	calls := append(plainCalls(), append(orderCalls([]int{0, 1, 2, 3}), boundCall(0))...)
	for _, l := range badOrders() {
		calls = append(calls, orderCalls(l)...)
	}
	for _, n := range badRequests() {
		calls = append(calls, boundCall(n))
	}
	for _, c := range calls {
		for _, q := range brokenDisks() {
			hold(t, c, q, api.ErrDisk)
		}
		for _, q := range brokenQueues() {
			hold(t, c, q, api.ErrQueue)
		}
	}
}

// P1, P7.2, P7.3, P7.5, P7.6, R1, R2: behind them come ErrOrder for an order, ErrArg for a request, and ErrNone.
func TestOtherErrors(t *testing.T) {
	q := queueQ()
	for _, l := range badOrders() {
		for _, c := range orderCalls(l) {
			hold(t, c, q, api.ErrOrder)
		}
	}
	for _, n := range badRequests() {
		hold(t, boundCall(n), q, api.ErrArg)
	}
	q.Requests = nil
	hold(t, firstCall(), q, api.ErrNone)
	for _, n := range append(badRequests(), 0) {
		hold(t, boundCall(n), q, api.ErrArg)
	}
	for _, c := range orderCalls([]int{0}) {
		hold(t, c, q, api.ErrOrder)
	}
}

// P7.2 to P7.8, R3: a queue without requests.
func TestNoRequests(t *testing.T) {
	for _, none := range [][]api.Request{nil, {}} {
		q := queueQ()
		q.Requests = none
		for _, order := range [][]int{nil, {}} {
			if is, e := Allowed(q, order); !is || e != api.OK {
				t.Errorf("Allowed = %v, %d", is, e)
			}
			if l, e := Ends(q, order); len(l) != 0 || e != api.OK {
				t.Errorf("Ends = %v, %d", l, e)
			}
		}
		if l, late, end, e := Order(q); len(l) != 0 || late != 0 || end != 0 || e != api.OK {
			t.Errorf("Order = %v, %d, %d, %d", l, late, end, e)
		}
		if l, e := Sure(q); len(l) != 0 || e != api.OK {
			t.Errorf("Sure = %v, %d", l, e)
		}
		if n, e := Tight(q); n != 0 || e != api.OK {
			t.Errorf("Tight = %d, %d", n, e)
		}
	}
}

// P7.2 to P7.8: the examples of the chapter.
func TestExamples(t *testing.T) {
	q := queueQ()
	for _, x := range []struct {
		order []int
		want  bool
	}{{[]int{1, 2, 0, 3}, true}, {[]int{2, 1, 0, 3}, true}, {[]int{0, 1, 3, 2}, false}} {
		if is, e := Allowed(q, x.order); is != x.want || e != api.OK {
			t.Errorf("Allowed of %v = %v, %d", x.order, is, e)
		}
	}
	want := []api.Span{span(56, 56), span(150, 150), span(185, 245), span(270, 330)}
	if l, e := Ends(q, []int{0, 1, 2, 3}); !slices.Equal(l, want) || e != api.OK {
		t.Errorf("Ends = %v, %d", l, e)
	}
	if l, late, end, e := Order(q); !slices.Equal(l, []int{1, 2, 0, 3}) || late != 0 || end != 330 || e != api.OK {
		t.Errorf("Order = %v, %d, %d, %d", l, late, end, e)
	}
	if n, e := First(q); n != 1 || e != api.OK {
		t.Errorf("First = %d, %d", n, e)
	}
	for request, want := range map[int]int{0: 236, 3: 330} {
		if n, e := Bound(q, request); n != want || e != api.OK {
			t.Errorf("Bound of %d = %d, %d", request, n, e)
		}
	}
	if l, e := Sure(q); !slices.Equal(l, []int{0, 3}) || e != api.OK {
		t.Errorf("Sure = %v, %d", l, e)
	}
	if n, e := Tight(q); n != 2 || e != api.OK {
		t.Errorf("Tight = %d, %d", n, e)
	}
}

// P7.2: with so many passes a request can come behind so many later ones, but not behind one more; ordered requests keep their places.
func TestAllowed(t *testing.T) {
	six := func(passes int, ordered ...int) api.Queue {
		q := queueQ()
		q.Passes = passes
		q.Requests = slices.Repeat([]api.Request{{Count: 1, Due: -1}}, 6)
		for _, r := range ordered {
			q.Requests[r].Ordered = true
		}
		return q
	}
	for i, x := range []struct {
		q     api.Queue
		order []int
		want  bool
	}{
		{six(0), []int{0, 1, 2, 3, 4, 5}, true},
		{six(0), []int{0, 1, 2, 3, 5, 4}, false},
		{six(1), []int{1, 0, 3, 2, 5, 4}, true},
		{six(1), []int{1, 2, 3, 4, 5, 0}, false},
		{six(1), []int{2, 0, 1, 3, 4, 5}, true},
		{six(4), []int{1, 2, 3, 4, 5, 0}, false},
		{six(5), []int{1, 2, 3, 4, 5, 0}, true},
		{six(4), []int{5, 4, 3, 2, 1, 0}, false},
		{six(5), []int{5, 4, 3, 2, 1, 0}, true},
		{six(6), []int{5, 4, 3, 2, 1, 0}, true},
		{six(6, 0), []int{0, 5, 4, 3, 2, 1}, true},
		{six(6, 0), []int{1, 0, 2, 3, 4, 5}, false},
		{six(6, 5), []int{4, 3, 2, 1, 0, 5}, true},
		{six(6, 5), []int{0, 1, 2, 3, 5, 4}, false},
		{six(6, 2), []int{1, 0, 2, 5, 4, 3}, true},
		{six(6, 2), []int{1, 3, 2, 0, 4, 5}, false},
		{six(6, 2), []int{3, 0, 1, 2, 4, 5}, false},
		{six(6, 2), []int{0, 2, 1, 3, 4, 5}, false},
		{six(6, 2, 3), []int{1, 0, 2, 3, 5, 4}, true},
		{six(6, 2, 3), []int{0, 1, 3, 2, 4, 5}, false},
		{six(0, 0, 1, 2, 3, 4, 5), []int{0, 1, 2, 3, 4, 5}, true},
	} {
		if is, e := Allowed(x.q, x.order); is != x.want || e != api.OK {
			t.Errorf("%d: Allowed of %v = %v, %d", i, x.order, is, e)
		}
	}
}

// P7.3: a request is waited for, it begins at the time 0 at the earliest, and an angle that has just been reached is not waited for.
func TestEnds(t *testing.T) {
	d := api.Disk{Heads: 1, Turn: 10, Zones: []api.Zone{{Cylinders: 2, Sectors: 5}}, CylSwitch: span(0, 4)}
	for i, x := range []struct {
		seeks    []api.Span
		cylinder int
		requests []api.Request
		order    []int
		want     []api.Span
	}{
		{[]api.Span{span(0, 0), span(0, 0)}, 0, []api.Request{{Count: 1}}, []int{0}, []api.Span{span(2, 2)}},
		{[]api.Span{span(0, 0), span(0, 0)}, 0, []api.Request{{Count: 1, At: 1}}, []int{0}, []api.Span{span(12, 12)}},
		{[]api.Span{span(0, 0), span(0, 0)}, 0, []api.Request{{Count: 1, At: 10}}, []int{0}, []api.Span{span(12, 12)}},
		{[]api.Span{span(1, 10), span(0, 0)}, 0, []api.Request{{Count: 1}}, []int{0}, []api.Span{span(12, 12)}},
		{[]api.Span{span(0, 1), span(0, 0)}, 0, []api.Request{{Count: 1}}, []int{0}, []api.Span{span(2, 12)}},
		{[]api.Span{span(0, 0), span(3, 14)}, 1, []api.Request{{From: 2, Count: 1}}, []int{0}, []api.Span{span(6, 16)}},
		{[]api.Span{span(0, 0), span(4, 4)}, 0, []api.Request{{From: 4, Count: 2}}, []int{0}, []api.Span{span(12, 22)}},
		{[]api.Span{span(0, 0), span(4, 4)}, 0, []api.Request{{From: 4, Count: 2}, {From: 6, Count: 1}}, []int{0, 1}, []api.Span{span(12, 22), span(14, 24)}},
		{[]api.Span{span(0, 0), span(4, 4)}, 0, []api.Request{{From: 4, Count: 2}, {From: 6, Count: 1}}, []int{1, 0}, []api.Span{span(22, 32), span(14, 14)}},
		{[]api.Span{span(0, 0), span(0, 0)}, 0, []api.Request{{Count: 1}, {From: 1, Count: 1, At: 2}, {From: 2, Count: 1, At: 5}}, []int{0, 1, 2}, []api.Span{span(2, 2), span(4, 4), span(16, 16)}},
		{[]api.Span{span(0, 0), span(0, 0)}, 0, []api.Request{{Count: 1}, {From: 1, Count: 1, At: 10}}, []int{1, 0}, []api.Span{span(22, 22), span(14, 14)}},
	} {
		q := api.Queue{Disk: d, Cylinder: x.cylinder, Seeks: x.seeks, Requests: x.requests}
		if l, e := Ends(q, x.order); !slices.Equal(l, x.want) || e != api.OK {
			t.Errorf("%d: Ends = %v, %d, not %v", i, l, e, x.want)
		}
	}
}

// P7.4, P7.7: a request that ends when it is due is not late, one tick earlier it is; one without a Due never is.
func TestDue(t *testing.T) {
	q := least()
	q.Requests = []api.Request{{Count: 1}}
	for due, want := range map[int]int{-1: 0, 0: 1, 1: 0, 2: 0} {
		q.Requests[0].Due = due
		order, late, end, e := Order(q)
		if !slices.Equal(order, []int{0}) || late != want || end != 1 || e != api.OK {
			t.Errorf("Order if due %d = %v, %d, %d, %d", due, order, late, end, e)
		}
		if l, e := Sure(q); len(l) != 1-want || e != api.OK {
			t.Errorf("Sure if due %d = %v, %d", due, l, e)
		}
	}
}

// P7.4, P7.5: of equal orders and of equal requests the lower ones are meant.
func TestEqualRequests(t *testing.T) {
	q := least()
	q.Passes = api.MaxRequests
	q.Requests = slices.Repeat([]api.Request{{Count: 1, Due: 2}}, 4)
	if l, late, end, e := Order(q); !slices.Equal(l, []int{0, 1, 2, 3}) || late != 2 || end != 4 || e != api.OK {
		t.Errorf("Order = %v, %d, %d, %d", l, late, end, e)
	}
	if n, e := First(q); n != 0 || e != api.OK {
		t.Errorf("First = %d, %d", n, e)
	}
	if n, e := Tight(q); n != 0 || e != api.OK {
		t.Errorf("Tight = %d, %d", n, e)
	}
}

// P7.4, P7.8: the fewest late requests count before the end, also if the others end later.
func TestFewestLate(t *testing.T) {
	d := api.Disk{Heads: 1, Turn: 10, Zones: []api.Zone{{Cylinders: 1, Sectors: 5}}}
	q := api.Queue{Disk: d, Seeks: []api.Span{{}}, Passes: 1, Requests: []api.Request{{Count: 1, Due: -1}, {From: 1, Count: 1, Due: -1}, {From: 4, Count: 1, Due: -1}}}
	for i, x := range []struct {
		due, late, end int
		order          []int
		tight          int
	}{
		{-1, 0, 10, []int{0, 1, 2}, 0},
		{10, 0, 10, []int{0, 1, 2}, 0},
		{2, 1, 10, []int{0, 1, 2}, 0},
	} {
		q.Requests[2].Due = x.due
		order, late, end, e := Order(q)
		if !slices.Equal(order, x.order) || late != x.late || end != x.end || e != api.OK {
			t.Errorf("%d: Order = %v, %d, %d, %d", i, order, late, end, e)
		}
		if n, e := Tight(q); n != x.tight || e != api.OK {
			t.Errorf("%d: Tight = %d, %d", i, n, e)
		}
	}
	q.Requests = []api.Request{{From: 2, Count: 1, Due: -1}, {From: 0, Count: 1, Due: -1}, {From: 1, Count: 1, Due: 4}}
	for passes, want := range []struct {
		order     []int
		late, end int
	}{{[]int{0, 1, 2}, 1, 14}, {[]int{2, 0, 1}, 0, 12}, {[]int{1, 2, 0}, 0, 6}} {
		q.Passes = passes
		order, late, end, e := Order(q)
		if !slices.Equal(order, want.order) || late != want.late || end != want.end || e != api.OK {
			t.Errorf("Order with %d passes = %v, %d, %d, %d", passes, order, late, end, e)
		}
		if n, e := Tight(q); n != 1 || e != api.OK {
			t.Errorf("Tight with %d passes = %d, %d", passes, n, e)
		}
	}
}

// P7.5: the request of First can be the first one; without passes, or before an ordered request, others that would end earlier cannot.
func TestFirst(t *testing.T) {
	d := api.Disk{Heads: 1, Turn: 10, Zones: []api.Zone{{Cylinders: 1, Sectors: 5}}}
	q := api.Queue{Disk: d, Seeks: []api.Span{{}}, Requests: []api.Request{{From: 4, Count: 1}, {From: 3, Count: 1}, {From: 0, Count: 1}}}
	for passes, want := range []int{0, 2, 2} {
		q.Passes = passes
		if n, e := First(q); n != want || e != api.OK {
			t.Errorf("First with %d passes = %d, %d", passes, n, e)
		}
	}
	q.Requests[1].Ordered = true
	if n, e := First(q); n != 0 || e != api.OK {
		t.Errorf("First before an ordered request = %d, %d", n, e)
	}
}

// P7.3, P7.6, R5: runs over the whole of the largest disks end later than any time of zones.Wait, and are right to the tick.
func TestLargest(t *testing.T) {
	q := largest(api.MaxRequests)
	m := modelOf(q)
	order := []int{5, 4, 3, 2, 1, 0}
	ends, e := Ends(q, order)
	if want := m.extremes(order); !slices.Equal(ends, want) || e != api.OK {
		t.Fatalf("Ends = %v, %d, not %v", ends, e, want)
	}
	if ends[0].High <= api.MaxTime {
		t.Errorf("the last request ends at %v, not behind the time %d", ends[0], api.MaxTime)
	}
	if n, e := Bound(q, 0); n != ends[0].High || e != api.OK {
		t.Errorf("Bound = %d, %d, not %d", n, e, ends[0].High)
	}
	if n, e := Tight(q); n != 0 || e != api.OK {
		t.Errorf("Tight = %d, %d", n, e)
	}
}

// R4: no argument is changed, and no result shares memory with one or with another result.
func TestMemory(t *testing.T) {
	q, kept := queueQ(), queueQ()
	order := []int{2, 1, 0, 3}
	Check(q)
	Allowed(q, order)
	ends, _ := Ends(q, order)
	best, _, _, _ := Order(q)
	First(q)
	Bound(q, 1)
	sure, _ := Sure(q)
	Tight(q)
	for _, l := range [][]int{best, sure} {
		full := l[:cap(l)]
		for i := range full {
			full[i] = 77
		}
	}
	for i := range ends {
		ends[i] = span(-7, -7)
	}
	same := slices.Equal(q.Disk.Zones, kept.Disk.Zones) && slices.Equal(q.Seeks, kept.Seeks) && slices.Equal(q.Requests, kept.Requests)
	if !same || q.Passes != kept.Passes || !slices.Equal(order, []int{2, 1, 0, 3}) {
		t.Errorf("an argument was changed: %v, %v", q, order)
	}
	if again, _, _, _ := Order(q); !slices.Equal(again, []int{1, 2, 0, 3}) {
		t.Errorf("Order = %v when it is asked again", again)
	}
}
