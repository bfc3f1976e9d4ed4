package arm

import (
	"math/rand/v2"
	"slices"
	"testing"

	"platter/api"
	"platter/servo"
)

// follower is a servo over the positions of an arm, which moves by at most its Speed between two wedges.
func follower(r *rand.Rand, a api.Arm, step int) api.Servo {
	s := api.Servo{
		Tracks: a.Last/step + 1, Step: step, Move: a.Speed + r.IntN(2), Noise: r.IntN(3), Wrong: r.IntN(api.MaxMisses + 1),
	}
	for range 1 + r.IntN(4) {
		s.Runout = append(s.Runout, r.IntN(step+1)-step/2)
	}
	return s
}

// rightly is what a servo reads at a position with some noise; nothing if no track is near.
func rightly(r *rand.Rand, s api.Servo, i, position int) api.Wedge {
	for track := range s.Tracks {
		off := position - track*s.Step - s.Runout[i%len(s.Runout)]
		if 2*max(off, -off) <= s.Step {
			return api.Wedge{Code: track ^ track/2, Burst: off + r.IntN(2*s.Noise+1) - s.Noise}
		}
	}
	return api.Wedge{Code: -1}
}

// followed is what a servo reads at the positions of an arm: at most Wrong wedges of it anything, some nothing, and the others rightly.
func followed(r *rand.Rand, s api.Servo, states []api.Spot) []api.Wedge {
	wrong := r.Perm(len(states))[:min(s.Wrong, len(states))]
	var wedges []api.Wedge
	for i, at := range states {
		w := rightly(r, s, i, at.At)
		switch {
		case slices.Contains(wrong, i):
			w = api.Wedge{Code: r.IntN(s.Tracks + 2), Burst: r.IntN(9) - 4}
		case r.IntN(6) == 0:
			w.Code = -1
		}
		wedges = append(wedges, w)
	}
	return wedges
}

// P0.1: an arm that is moved to a track is always where a servo says that it can be, and once it is there, some of these places are near the target.
func TestFollowedArm(t *testing.T) {
	r := rand.New(rand.NewPCG(6, 1))
	arrived := 0
	for range 600 {
		step := 1 + r.IntN(6)
		a := strongArm(r, armL())
		a.Last -= a.Last % step
		s := follower(r, a, step)
		target := r.IntN(s.Tracks) * step
		list := every(a)
		from := list[r.IntN(len(list))]
		steps, _, e := Steps(a, target, from)
		if e == api.ErrNone {
			continue
		}
		run, e := Run(a, target, from, shocks(r, a, r.IntN(5))[:api.MaxWedges-1])
		if e != api.OK {
			t.Fatalf("Run of %v, %d and %v: %d", a, target, from, e)
		}
		states := append([]api.Spot{from}, run...)
		wedges := followed(r, s, states)
		for n, at := range states {
			spans, e := servo.Where(s, wedges[:n+1])
			is := func(w api.Span) bool { return w.Low <= at.At && at.At <= w.High }
			if e != api.OK || !slices.ContainsFunc(spans, is) {
				t.Fatalf("Where of %v and %v = %v, %d, but the arm %v is at %v", s, wedges[:n+1], spans, e, a, at)
			}
			near := func(w api.Span) bool { return w.Low <= target+a.Gate && target-a.Gate <= w.High }
			if n >= steps && !slices.ContainsFunc(spans, near) {
				t.Fatalf("Where of %v and %v = %v, not near %d, where the arm %v is", s, wedges[:n+1], spans, target, a)
			}
		}
		if steps > 0 && steps < len(states) {
			arrived++
		}
	}
	if arrived < 100 {
		t.Errorf("%d arms arrived", arrived)
	}
}
