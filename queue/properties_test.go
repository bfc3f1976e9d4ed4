package queue

import (
	"math/rand/v2"
	"slices"
	"testing"

	"platter/api"
)

func endsOf(t *testing.T, q api.Queue, order []int) []api.Span {
	t.Helper()
	l, e := Ends(q, order)
	if e != api.OK || len(l) != len(q.Requests) {
		t.Fatalf("Ends of %v and %v = %v, %d", q, order, l, e)
	}
	return l
}

// best is what Order returns of a queue.
type best struct {
	order     []int
	late, end int
}

func bestOf(t *testing.T, q api.Queue) best {
	t.Helper()
	order, late, end, e := Order(q)
	if e != api.OK {
		t.Fatalf("Order of %v: %d", q, e)
	}
	return best{order, late, end}
}

func isAllowed(t *testing.T, q api.Queue, order []int) bool {
	t.Helper()
	is, e := Allowed(q, order)
	if e != api.OK {
		t.Fatalf("Allowed of %v and %v: %d", q, order, e)
	}
	return is
}

// allowedOf returns all orders of a queue that Allowed allows.
func allowedOf(t *testing.T, q api.Queue) [][]int {
	t.Helper()
	var all [][]int
	for _, order := range permutations(len(q.Requests)) {
		if isAllowed(t, q, order) {
			all = append(all, order)
		}
	}
	return all
}

func boundOf(t *testing.T, q api.Queue, r int) int {
	t.Helper()
	n, e := Bound(q, r)
	if e != api.OK {
		t.Fatalf("Bound of %v and %d: %d", q, r, e)
	}
	return n
}

func sureOf(t *testing.T, q api.Queue) []int {
	t.Helper()
	l, e := Sure(q)
	if e != api.OK {
		t.Fatalf("Sure of %v: %d", q, e)
	}
	return l
}

func tightOf(t *testing.T, q api.Queue) int {
	t.Helper()
	n, e := Tight(q)
	if e != api.OK {
		t.Fatalf("Tight of %v: %d", q, e)
	}
	return n
}

// P7.2: Allowed is the definition, for all orders.
func TestAllowedModel(t *testing.T) {
	r := rand.New(rand.NewPCG(7, 1))
	counts := map[bool]int{}
	for range 150 {
		q := anyQueue(r, 6)
		m := modelOf(q)
		for _, order := range permutations(len(q.Requests)) {
			is := isAllowed(t, q, order)
			if is != m.allowed(order, q.Passes) {
				t.Fatalf("Allowed of %v and %v = %v", q, order, is)
			}
			counts[is]++
		}
	}
	if counts[true] < 1000 || counts[false] < 1000 {
		t.Errorf("%v orders were allowed", counts)
	}
}

// P7.3, P7.11: the ends are the first and the last one of all times at which a request can end, allowed or not.
func TestEndsModel(t *testing.T) {
	r := rand.New(rand.NewPCG(7, 2))
	forbidden := 0
	for range 400 {
		q := anyQueue(r, 4)
		m := modelOf(q)
		for range 3 {
			order := r.Perm(len(q.Requests))
			if got, want := endsOf(t, q, order), m.ends(order); !slices.Equal(got, want) {
				t.Fatalf("Ends of %v and %v = %v, not %v", q, order, got, want)
			}
			if !isAllowed(t, q, order) {
				forbidden++
			}
		}
	}
	if forbidden < 100 {
		t.Errorf("%d orders were not allowed", forbidden)
	}
}

// P7.11: whatever seeks and switches take, each request ends within its Ends; the ends are those of the fewest and of the most ticks.
func TestWhateverSeeksTake(t *testing.T) {
	r := rand.New(rand.NewPCG(7, 3))
	any := func(s api.Span) int { return s.Low + r.IntN(s.High-s.Low+1) }
	either := func(s api.Span) int {
		if r.IntN(2) == 0 {
			return s.Low
		}
		return s.High
	}
	inner := 0
	for range 1000 {
		q := anyQueue(r, 6)
		m := modelOf(q)
		order := r.Perm(len(q.Requests))
		spans := endsOf(t, q, order)
		if want := m.extremes(order); !slices.Equal(spans, want) {
			t.Fatalf("Ends of %v and %v = %v, not %v", q, order, spans, want)
		}
		for _, takes := range []pace{any, any, either, either} {
			for i, end := range m.serve(order, takes) {
				if end < spans[i].Low || end > spans[i].High {
					t.Fatalf("Ends of %v and %v = %v, but %d ends at %d", q, order, spans, i, end)
				}
				if spans[i].Low < end && end < spans[i].High {
					inner++
				}
			}
		}
	}
	if inner < 1000 {
		t.Errorf("%d ends were within their spans", inner)
	}
}

// P7.4 to P7.8: all results for all allowed orders, against the definitions followed word by word.
func TestModel(t *testing.T) {
	r := rand.New(rand.NewPCG(7, 4))
	others, tights := 0, map[int]int{}
	for range 700 {
		q := anyQueue(r, 5)
		m := modelOf(q)
		orders := m.orders(q.Passes)
		order, late, end := m.best(q.Passes)
		if got := bestOf(t, q); !slices.Equal(got.order, order) || got.late != late || got.end != end {
			t.Fatalf("Order of %v = %v, not %v, %d, %d", q, got, order, late, end)
		}
		bounds := make([]int, len(q.Requests))
		firsts := map[int]int{}
		for _, o := range orders {
			ends := m.extremes(o)
			for i, s := range ends {
				bounds[i] = max(bounds[i], s.High)
			}
			if len(o) > 0 {
				firsts[o[0]] = ends[o[0]].High
			}
		}
		var sure []int
		for i, bound := range bounds {
			if n := boundOf(t, q, i); n != bound {
				t.Fatalf("Bound of %v and %d = %d, not %d", q, i, n, bound)
			}
			if !m.late(i, bound) {
				sure = append(sure, i)
			}
		}
		if got := sureOf(t, q); !slices.Equal(got, sure) {
			t.Fatalf("Sure of %v = %v, not %v", q, got, sure)
		}
		checkFirst(t, q, firsts)
		tight := 0
		_, least, _ := m.best(api.MaxRequests)
		for _, late, _ := m.best(tight); late != least; _, late, _ = m.best(tight) {
			tight++
		}
		if n := tightOf(t, q); n != tight {
			t.Fatalf("Tight of %v = %d, not %d", q, n, tight)
		}
		tights[tight]++
		if !slices.IsSorted(order) {
			others++
		}
	}
	if others < 100 || tights[1] < 50 || tights[2] < 10 {
		t.Errorf("%d best orders are not by the numbers, tight were %v", others, tights)
	}
}

// checkFirst holds First against the latest ends of all requests that can be the first ones.
func checkFirst(t *testing.T, q api.Queue, firsts map[int]int) {
	t.Helper()
	first, want := 0, api.OK
	if len(firsts) == 0 {
		want = api.ErrNone
	}
	for i, end := range firsts {
		if end < firsts[first] || end == firsts[first] && i < first {
			first = i
		}
	}
	if n, e := First(q); n != first || e != want {
		t.Fatalf("First of %v = %d, %d, not %d, %d", q, n, e, first, want)
	}
}

// P7.9: in each allowed order each request comes after at most Passes later ones, and none ends after its Bound; an order by the numbers is allowed.
func TestNobodyStarves(t *testing.T) {
	r := rand.New(rand.NewPCG(7, 5))
	reached := 0
	for range 100 {
		q := anyQueue(r, 5)
		var numbers []int
		for i := range q.Requests {
			numbers = append(numbers, i)
		}
		if !isAllowed(t, q, numbers) {
			t.Fatalf("Allowed of %v and %v is false", q, numbers)
		}
		orders := allowedOf(t, q)
		for i := range q.Requests {
			bound := boundOf(t, q, i)
			found := false
			for _, order := range orders {
				later := 0
				for _, before := range order[:slices.Index(order, i)] {
					if before > i {
						later++
					}
				}
				end := endsOf(t, q, order)[i].High
				if later > q.Passes || end > bound {
					t.Fatalf("in the order %v of %v %d comes behind %d later ones, and ends at %d, with the bound %d", order, q, i, later, end, bound)
				}
				found = found || end == bound
				if later == q.Passes && later > 0 {
					reached++
				}
			}
			if !found {
				t.Fatalf("Bound of %v and %d = %d, and in no order it ends then", q, i, bound)
			}
		}
	}
	if reached < 100 {
		t.Errorf("%d requests were overtaken as often as they can be", reached)
	}
}

// P7.10: what came before an ordered request is served before it in each allowed order, what came after it after it.
func TestBarriers(t *testing.T) {
	r := rand.New(rand.NewPCG(7, 6))
	held := 0
	for range 150 {
		q := anyQueue(r, 6)
		q.Passes = api.MaxRequests
		ordered := func(i int) bool { return q.Requests[i].Ordered }
		if len(q.Requests) > 0 {
			q.Requests[r.IntN(len(q.Requests))].Ordered = true
		}
		orders := allowedOf(t, q)
		orders = append(orders, bestOf(t, q).order)
		for _, order := range orders {
			for place, i := range order {
				for _, before := range order[:place] {
					if before > i && (ordered(i) || ordered(before)) {
						t.Fatalf("the order %v of %v is allowed", order, q)
					}
					if ordered(i) || ordered(before) {
						held++
					}
				}
			}
		}
	}
	if held < 1000 {
		t.Errorf("%d pairs with an ordered request", held)
	}
}

// P7.12: no allowed order has fewer late requests than Order, nor as many and an earlier end; no request that may be the first one ends earlier than that of First.
func TestBestOrder(t *testing.T) {
	r := rand.New(rand.NewPCG(7, 7))
	for range 60 {
		q := anyQueue(r, 6)
		b := bestOf(t, q)
		orders := allowedOf(t, q)
		listed := func(order []int) bool { return slices.Equal(order, b.order) }
		if !slices.ContainsFunc(orders, listed) {
			t.Fatalf("Order of %v = %v is not allowed", q, b)
		}
		firsts := map[int]int{}
		for _, order := range orders {
			late, end := 0, 0
			ends := endsOf(t, q, order)
			for i, s := range ends {
				if q.Requests[i].Due != -1 && s.High > q.Requests[i].Due {
					late++
				}
				end = max(end, s.High)
			}
			if late < b.late || late == b.late && end < b.end {
				t.Fatalf("Order of %v = %v, but %v has %d late ones and ends at %d", q, b, order, late, end)
			}
			if len(order) > 0 {
				firsts[order[0]] = ends[order[0]].High
			}
		}
		checkFirst(t, q, firsts)
	}
}

// narrower returns a span within a span.
func narrower(r *rand.Rand, s api.Span) api.Span {
	low := s.Low + r.IntN(s.High-s.Low+1)
	return span(low, low+r.IntN(s.High-low+1))
}

// P7.13: with narrower seeks the ends are not wider; with more passes there are no more late requests, and, if as many, no later end.
func TestNarrowerAndMore(t *testing.T) {
	r := rand.New(rand.NewPCG(7, 8))
	narrowed, fewer, earlier := 0, 0, 0
	for range 400 {
		q := anyQueue(r, 5)
		order := r.Perm(len(q.Requests))
		wide := endsOf(t, q, order)
		n := q
		n.Seeks = nil
		for _, s := range q.Seeks {
			n.Seeks = append(n.Seeks, narrower(r, s))
		}
		for i, s := range endsOf(t, n, order) {
			if s.Low < wide[i].Low || s.High > wide[i].High {
				t.Fatalf("Ends of %v and %v = %v, but with narrower seeks %v", q, order, wide, s)
			}
			if s != wide[i] {
				narrowed++
			}
		}
		q.Passes = 0
		before := bestOf(t, q)
		for q.Passes = 1; q.Passes <= api.MaxRequests; q.Passes++ {
			more := bestOf(t, q)
			if more.late > before.late || more.late == before.late && more.end > before.end {
				t.Fatalf("Order of %v = %v, but with one pass less %v", q, more, before)
			}
			if more.late < before.late {
				fewer++
			} else if more.end < before.end {
				earlier++
			}
			before = more
		}
	}
	if narrowed < 100 || fewer < 50 || earlier < 50 {
		t.Errorf("%d spans were narrower, %d orders had fewer late requests, %d an earlier end", narrowed, fewer, earlier)
	}
}

// P7.14: a request of Sure is not late in the order of Order; with Tight passes there are as few late requests as with any, with one less there are more.
func TestSureAndTight(t *testing.T) {
	r := rand.New(rand.NewPCG(7, 9))
	due, less := 0, 0
	for range 500 {
		q := anyQueue(r, 5)
		b := bestOf(t, q)
		ends := endsOf(t, q, b.order)
		for _, i := range sureOf(t, q) {
			if q.Requests[i].Due == -1 {
				continue
			}
			due++
			if ends[i].High > q.Requests[i].Due {
				t.Fatalf("Sure of %v has %d, which ends at %v in %v", q, i, ends[i], b.order)
			}
		}
		tight := tightOf(t, q)
		late := func(passes int) int {
			with := q
			with.Passes = passes
			return bestOf(t, with).late
		}
		for passes := range api.MaxRequests + 1 {
			if n := late(passes); n < late(tight) {
				t.Fatalf("Tight of %v = %d, but with %d passes %d requests are late", q, tight, passes, n)
			}
		}
		if tight > 0 {
			less++
			if late(tight-1) <= late(tight) {
				t.Fatalf("Tight of %v = %d, but one less is enough", q, tight)
			}
		}
		with := q
		with.Passes = (q.Passes + 1 + r.IntN(api.MaxRequests)) % (api.MaxRequests + 1)
		if n := tightOf(t, with); n != tight {
			t.Fatalf("Tight of %v = %d, with %d passes %d", q, tight, with.Passes, n)
		}
	}
	if due < 100 || less < 50 {
		t.Errorf("%d sure requests with a Due, %d queues that need passes", due, less)
	}
}
