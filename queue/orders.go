package queue

// plan is an order, how many requests are late in it in the worst case, and the latest time at which the last one ends.
type plan struct {
	order     []int
	late, end int
}

// follows tells whether a request may be served next behind others.
func (q checked) follows(before []int, r int) bool {
	passes := 0
	for _, b := range before {
		if b < r {
			continue
		}
		if q.Requests[b].Ordered || q.Requests[r].Ordered {
			return false
		}
		passes++
	}
	return passes <= q.Passes
}

func (q checked) allows(order []int) bool {
	for i, r := range order {
		if !q.follows(order[:i], r) {
			return false
		}
	}
	return true
}

// orders yields all allowed orders; of two of them first the one with the lower request where they differ first. Each has memory of its own.
func (q checked) orders(yield func([]int) bool) {
	var extend func(order []int) bool
	extend = func(order []int) bool {
		if len(order) == len(q.Requests) {
			return yield(order)
		}
	requests:
		for r := range q.Requests {
			for _, b := range order {
				if b == r {
					continue requests
				}
			}
			if q.follows(order, r) && !extend(append(order[:len(order):len(order)], r)) {
				return false
			}
		}
		return true
	}
	extend(nil)
}

// planOf returns the plan of an order.
func (q checked) planOf(order []int) plan {
	p := plan{order: order}
	for r, s := range q.ends(order) {
		if q.late(r, s.High) {
			p.late++
		}
		p.end = max(p.end, s.High)
	}
	return p
}

// best returns the plan of the best order.
func (q checked) best() plan {
	var best plan
	found := false
	for order := range q.orders {
		p := q.planOf(order)
		if !found || p.late < best.late || p.late == best.late && p.end < best.end {
			best, found = p, true
		}
	}
	return best
}

// bounds returns the latest times at which the requests can end in any allowed order.
func (q checked) bounds() []int {
	bounds := make([]int, len(q.Requests))
	for order := range q.orders {
		for r, s := range q.ends(order) {
			bounds[r] = max(bounds[r], s.High)
		}
	}
	return bounds
}
