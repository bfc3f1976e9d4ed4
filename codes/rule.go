package codes

import (
	"slices"

	"platter/api"
)

// run is all that the rule needs to know of a stream: the state after it, the zeros at its end, and whether there is a one before them.
type run struct {
	state, zeros int
	one          bool
}

// trail is a run, and what leads to it.
type trail struct {
	run
	from api.Breach
}

// breach returns data with the fewest words whose stream breaks the rule, if there are any.
func (c checked) breach() (api.Breach, bool) {
	var trails []trail
	for s := range c.Words {
		trails = append(trails, trail{run{state: s}, api.Breach{State: s}})
	}
	seen := map[run]bool{}
	// The trails come by their numbers of words, so that the first breach is one of the shortest.
	for i := 0; i < len(trails); i++ {
		t := trails[i]
		for w := range c.Words[t.state] {
			longer := api.Breach{State: t.from.State, Data: append(slices.Clone(t.from.Data), w)}
			next, keeps := c.longer(t.run, w)
			if !keeps {
				return longer, true
			}
			if !seen[next] {
				seen[next] = true
				trails = append(trails, trail{next, longer})
			}
		}
	}
	return api.Breach{}, false
}

// longer returns a run with one more word of data, and whether its bits keep the rule.
func (c checked) longer(r run, word int) (run, bool) {
	for _, b := range c.bits(c.Words[r.state][word]) {
		if b == 0 {
			r.zeros++
		}
		if r.zeros > c.Most || b == 1 && r.one && r.zeros < c.Least {
			return run{}, false
		}
		if b == 1 {
			r.one, r.zeros = true, 0
		}
	}
	r.state = c.Next[r.state][word]
	return r, true
}
