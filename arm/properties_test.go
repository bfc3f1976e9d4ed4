package arm

import (
	"cmp"
	"math/rand/v2"
	"slices"
	"testing"

	"platter/api"
)

// holdStays fails unless the arm can stay in some states.
func holdStays(t *testing.T, a api.Arm, target int, there []api.Spot) {
	t.Helper()
	if list, e := Stays(a, target); e != api.OK || !slices.Equal(list, there) {
		t.Fatalf("Stays of %v and %d = %v, %d, not %v", a, target, list, e, there)
	}
}

// holdSteps fails unless the steps and the command of a state are those of a game. It returns the steps, -1 if the state is lost.
func holdSteps(t *testing.T, g game, target int, s api.Spot) int {
	t.Helper()
	steps, command, want := g.steps(s)
	if n, c, e := Steps(g.arm, target, s); n != steps || c != command || e != want {
		t.Fatalf("Steps of %v, %d and %v = %d, %d, %d, not %d, %d, %d", g.arm, target, s, n, c, e, steps, command, want)
	}
	if want != api.OK {
		return -1
	}
	return steps
}

// holdSafe fails unless some states are the safe ones, and Park is the most of their steps for the target 0. It returns Park, -1 for ErrNone.
func holdSafe(t *testing.T, a api.Arm, safe []api.Spot) int {
	t.Helper()
	if list, e := Safe(a); e != api.OK || !slices.Equal(list, safe) {
		t.Fatalf("Safe of %v = %v, %d, not %v", a, list, e, safe)
	}
	most := 0
	k := newSeek(t, a, 0)
	for _, s := range safe {
		most = max(most, k.steps(s))
	}
	n, e := Park(a)
	if len(safe) == 0 || most == never {
		if n != 0 || e != api.ErrNone {
			t.Fatalf("Park of %v = %d, %d", a, n, e)
		}
		return -1
	}
	if n != most || e != api.OK {
		t.Fatalf("Park of %v = %d, %d, not %d", a, n, e, most)
	}
	return n
}

// P6.2, P6.3, P6.5: Stays, Steps and Table of small arms are what the chapter says, with each set of states and each choice of commands tried.
func TestSmallArms(t *testing.T) {
	reached, lost := 0, 0
	for _, a := range small() {
		table, e := Table(a)
		if e != api.OK {
			t.Fatalf("Table of %v: %d", a, e)
		}
		for target := range a.Last + 1 {
			there := union(a, tracking(a, target))
			holdStays(t, a, target, there)
			g := newGame(a, there)
			for _, s := range every(a) {
				steps := holdSteps(t, g, target, s)
				if s.Speed == 0 && table[s.At][target] != steps {
					t.Fatalf("Table of %v = %v, but from %d to %d in %d", a, table, s.At, target, steps)
				}
				if steps > 0 {
					reached++
				} else if steps < 0 {
					lost++
				}
			}
		}
	}
	if reached < 1000 || lost < 1000 {
		t.Errorf("%d states were on their way, %d lost", reached, lost)
	}
}

// P6.6, P6.7: Safe and Park of small arms are what the chapter says, with each set of states tried.
func TestSmallSafe(t *testing.T) {
	parked, stranded := 0, 0
	for _, a := range small() {
		list := every(a)
		if len(list) > 15 {
			continue
		}
		if most := holdSafe(t, a, union(a, list)); most > 0 {
			parked++
		} else if most < 0 {
			stranded++
		}
	}
	if parked < 20 || stranded < 20 {
		t.Errorf("%d arms can be parked, %d not", parked, stranded)
	}
}

// P6.2, P6.3, P6.6, P6.7: the same for arms of middle size, followed for as many steps as they have states.
func TestMediumArms(t *testing.T) {
	for i, a := range medium(80) {
		target := i % (a.Last + 1)
		there := lasting(a, tracking(a, target))
		holdStays(t, a, target, there)
		g := newGame(a, there)
		for _, s := range every(a) {
			holdSteps(t, g, target, s)
		}
		holdSafe(t, a, lasting(a, every(a)))
	}
}

// P6.2, P6.6, P6.7: the same for the arms at the limits, but for their steps.
func TestLargeArms(t *testing.T) {
	for _, a := range large(8) {
		for _, target := range []int{0, 1, a.Last / 2, a.Last} {
			holdStays(t, a, target, lasting(a, tracking(a, target)))
		}
		holdSafe(t, a, lasting(a, every(a)))
	}
}

// P6.2, P6.6: the states are in their order, also those of large arms, and in those of Stays the arm is on track.
func TestOrdered(t *testing.T) {
	order := func(s, other api.Spot) int {
		return cmp.Or(cmp.Compare(s.At, other.At), cmp.Compare(s.Speed, other.Speed))
	}
	for i, a := range large(60) {
		target := i * 7 % (a.Last + 1)
		stays, e := Stays(a, target)
		safe, e2 := Safe(a)
		if e != api.OK || e2 != api.OK {
			t.Fatalf("Stays and Safe of %v: %d, %d", a, e, e2)
		}
		for _, list := range [][]api.Spot{stays, safe} {
			if !slices.IsSortedFunc(list, order) || len(slices.Compact(slices.Clone(list))) < len(list) {
				t.Errorf("the states %v of %v are not in order", list, a)
			}
		}
		holdStays(t, a, target, lasting(a, tracking(a, target)))
	}
}

// scene is an arm, a target, and a state that is not lost for it.
type scene struct {
	arm    api.Arm
	target int
	from   api.Spot
}

// scenes are scenes of some arms, with so many states of each.
func scenes(t *testing.T, arms []api.Arm, each int) []scene {
	r := rand.New(rand.NewPCG(61, uint64(len(arms))))
	var all []scene
	for _, a := range arms {
		target := r.IntN(a.Last + 1)
		k := newSeek(t, a, target)
		list := every(a)
		for range each {
			if s := list[r.IntN(len(list))]; k.steps(s) < never {
				all = append(all, scene{a, target, s})
			}
		}
	}
	return all
}

// shocks are as many shocks of an arm as there can be: any, always the same, or by turns the greatest ones.
func shocks(r *rand.Rand, a api.Arm, kind int) []int {
	list := make([]int, api.MaxRun)
	for i := range list {
		switch kind {
		case 0:
			list[i] = r.IntN(2*a.Shake+1) - a.Shake
		case 1:
			list[i] = a.Shake
		case 2:
			list[i] = -a.Shake
		case 3:
			list[i] = a.Shake * (1 - 2*(i%2))
		default:
			list[i] = a.Shake * (2*r.IntN(2) - 1)
		}
	}
	return list
}

// P6.4, P6.8: a run follows the commands, never crashes, is there in time, and from then on.
func TestThereInTime(t *testing.T) {
	r := rand.New(rand.NewPCG(6, 8))
	moved := 0
	for i, x := range append(scenes(t, medium(150), 6), scenes(t, large(40), 3)...) {
		k := newSeek(t, x.arm, x.target)
		stays, _ := Stays(x.arm, x.target)
		there := among(stays)
		list := shocks(r, x.arm, i%5)
		run, e := Run(x.arm, x.target, x.from, list)
		if e != api.OK || len(run) != len(list) {
			t.Fatalf("Run of %v = %v, %d", x, run, e)
		}
		s := x.from
		steps := k.steps(s)
		for n, next := range run[:min(len(run), steps+20)] {
			_, command, _ := Steps(x.arm, x.target, s)
			if want, crash := step(x.arm, s, command, list[n]); crash || next != want {
				t.Fatalf("Run of %v with %v = %v: %v after %v with %d", x, list, run, next, s, command)
			}
			if left := k.steps(next); left > max(steps-n-1, 0) || n+1 >= steps && !there(next) {
				t.Fatalf("Run of %v with %v = %v: %d steps are left of %v", x, list, run, left, next)
			}
			s = next
		}
		if out := func(s api.Spot) bool { return !there(s) }; slices.ContainsFunc(run[max(steps-1, 0):], out) {
			t.Fatalf("Run of %v with %v = %v does not stay", x, list, run)
		}
		if steps > 1 && x.arm.Shake > 0 {
			moved++
		}
	}
	if moved < 100 {
		t.Errorf("%d runs had shocks on their way", moved)
	}
}

// worst is the shock after which an arm has most steps left.
func worst(k seek, s api.Spot, command int) (shock, left int) {
	left = -1
	for c := -k.arm.Shake; c <= k.arm.Shake; c++ {
		n := never
		if next, crash := step(k.arm, s, command, c); !crash {
			n = k.steps(next)
		}
		if n > left {
			shock, left = c, n
		}
	}
	return shock, left
}

// P6.8, P6.9: with the worst shocks a run takes just as many steps as Steps says.
func TestWorstShocks(t *testing.T) {
	for _, x := range append(scenes(t, medium(60), 4), scenes(t, large(12), 2)...) {
		k := newSeek(t, x.arm, x.target)
		var list []int
		s := x.from
		for n := k.steps(s); n > 0; n-- {
			_, command, _ := Steps(x.arm, x.target, s)
			shock, left := worst(k, s, command)
			if left != n-1 {
				t.Fatalf("Steps of %v, %d and %v = %d, %d, but the shock %d leaves %d", x.arm, x.target, s, n, command, shock, left)
			}
			list = append(list, shock)
			s, _ = step(x.arm, s, command, shock)
		}
		run, e := Run(x.arm, x.target, x.from, list)
		if e != api.OK || len(run) != len(list) || len(run) > 0 && run[len(run)-1] != s {
			t.Fatalf("Run of %v with %v = %v, %d", x, list, run, e)
		}
	}
}

// P6.3, P6.9: no command is surely faster than Steps says, and none that is lower than its own as fast; from a lost state no command surely leads to one that is not.
func TestNoFaster(t *testing.T) {
	for i, a := range append(medium(60), large(12)...) {
		target := i * 5 % (a.Last + 1)
		k := newSeek(t, a, target)
		list := every(a)
		for j := 0; j < len(list); j += 1 + len(list)/12 {
			s := list[j]
			n, own, _ := Steps(a, target, s)
			for c := -a.Force; c <= a.Force; c++ {
				_, left := worst(k, s, c)
				switch {
				case k.steps(s) == never:
					if left != never {
						t.Fatalf("Steps of %v, %d and %v: lost, but %d leads to %d steps", a, target, s, c, left)
					}
				case n > 0 && (left < n-1 || c < own && left < n || c == own && left != n-1):
					t.Fatalf("Steps of %v, %d and %v = %d, %d, but %d leads to %d steps", a, target, s, n, own, c, left)
				case n == 0 && (c < own && left == 0 || c == own && left != 0):
					t.Fatalf("Steps of %v, %d and %v = %d, %d, but %d leads to %d steps", a, target, s, n, own, c, left)
				}
			}
		}
	}
}

// eased are the valid arms with more Force, less Shake, or a greater Gate or Slow by one.
func eased(a api.Arm) []api.Arm {
	var all []api.Arm
	for _, change := range []func(a *api.Arm){
		func(a *api.Arm) { a.Force++ }, func(a *api.Arm) { a.Shake-- }, func(a *api.Arm) { a.Gate++ }, func(a *api.Arm) { a.Slow++ },
	} {
		b := a
		change(&b)
		if Check(b) == api.OK {
			all = append(all, b)
		}
	}
	return all
}

// P6.10: an arm that has it easier loses no state, and has no more steps.
func TestEasier(t *testing.T) {
	faster := 0
	hold := func(k, other seek, s api.Spot) {
		n, m := k.steps(s), other.steps(s)
		if m > n {
			t.Fatalf("%v has %d steps from %v to %d, but %v has %d", k.arm, n, s, k.target, other.arm, m)
		}
		if m < n {
			faster++
		}
	}
	for i, a := range append(medium(60), large(12)...) {
		target := i * 3 % (a.Last + 1)
		k := newSeek(t, a, target)
		list := every(a)
		for _, b := range eased(a) {
			other := newSeek(t, b, target)
			for j := 0; j < len(list); j += 1 + len(list)/50 {
				hold(k, other, list[j])
			}
		}
	}
	if faster < 100 {
		t.Errorf("%d states had fewer steps", faster)
	}
}

// P6.11: the steps of a mirrored state for the mirrored target are the same, and where the arm can stay is mirrored too.
func TestBackwards(t *testing.T) {
	for i, a := range append(medium(60), large(12)...) {
		target := i * 11 % (a.Last + 1)
		k, other := newSeek(t, a, target), newSeek(t, a, a.Last-target)
		list := every(a)
		for j := 0; j < len(list); j += 1 + len(list)/50 {
			s := list[j]
			mirrored := spot(a.Last-s.At, -s.Speed)
			if n, m := k.steps(s), other.steps(mirrored); n != m {
				t.Fatalf("%v has %d steps from %v to %d, but %d mirrored", a, n, s, target, m)
			}
		}
		stays, _ := Stays(a, target)
		back, _ := Stays(a, a.Last-target)
		slices.Reverse(back)
		for n, s := range back {
			back[n] = spot(a.Last-s.At, -s.Speed)
		}
		if !slices.Equal(stays, back) {
			t.Fatalf("Stays of %v and %d = %v, but mirrored %v", a, target, stays, back)
		}
	}
}

// P6.12: from a safe state some command surely leads to safe ones, from another one none does, and a state that is not safe is lost for every target.
func TestNoCrash(t *testing.T) {
	unsafe := 0
	for i, a := range append(medium(80), large(40)...) {
		list, e := Safe(a)
		if e != api.OK {
			t.Fatalf("Safe of %v: %d", a, e)
		}
		safe := among(list)
		for j, s := range every(a) {
			if _, found := first(a, s, safe); found != safe(s) {
				t.Fatalf("Safe of %v: %v is %v, but a command leads on: %v", a, s, safe(s), found)
			}
			if safe(s) || j%7 > 0 {
				continue
			}
			unsafe++
			target := (i + j) % (a.Last + 1)
			if n, _, e := Steps(a, target, s); e != api.ErrNone {
				t.Fatalf("Steps of %v, %d and %v = %d, %d, but it is not safe", a, target, s, n, e)
			}
		}
	}
	if unsafe < 100 {
		t.Errorf("%d states were not safe", unsafe)
	}
}

// P6.12: from a safe state the arm never crashes in a run of any length, if each command leads to safe states.
func TestSafeForEver(t *testing.T) {
	r := rand.New(rand.NewPCG(6, 12))
	for _, a := range append(medium(40), large(20)...) {
		list, _ := Safe(a)
		if len(list) == 0 {
			continue
		}
		safe := among(list)
		s := list[r.IntN(len(list))]
		for range 300 {
			command, found := first(a, s, safe)
			next, crash := step(a, s, command, r.IntN(2*a.Shake+1)-a.Shake)
			if !found || crash {
				t.Fatalf("Safe of %v: %v has no way on", a, s)
			}
			s = next
		}
	}
}

// P6.13: Table is 0 where the arm is there at rest, and the same when it is mirrored.
func TestTableMirrored(t *testing.T) {
	for _, a := range append(medium(80), large(30)...) {
		table, e := Table(a)
		if e != api.OK {
			t.Fatalf("Table of %v: %d", a, e)
		}
		for target := range a.Last + 1 {
			stays, _ := Stays(a, target)
			there := among(stays)
			for p := range a.Last + 1 {
				n := table[p][target]
				if (n == 0) != there(spot(p, 0)) || n < -1 {
					t.Fatalf("Table of %v is %d from %d to %d, but it can stay: %v", a, n, p, target, there(spot(p, 0)))
				}
				if m := table[a.Last-p][a.Last-target]; n != m {
					t.Fatalf("Table of %v is %d from %d to %d, but %d mirrored", a, n, p, target, m)
				}
			}
		}
	}
}
