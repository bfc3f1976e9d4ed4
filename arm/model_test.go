package arm

import (
	"math/rand/v2"
	"slices"
	"testing"

	"platter/api"
)

// armA and armB are the arms of the chapter, armL is the largest arm that there is.
func armA() api.Arm { return api.Arm{Last: 6, Speed: 2, Force: 3, Shake: 1, Gate: 1, Slow: 2} }
func armB() api.Arm { return api.Arm{Last: 6, Speed: 2, Force: 3} }
func armL() api.Arm {
	return api.Arm{Last: api.MaxLast, Speed: api.MaxSpeed, Force: api.MaxForce, Shake: api.MaxShake, Gate: api.MaxGate, Slow: api.MaxSpeed}
}

// spot is a state, spots lists states from their positions and speeds.
func spot(at, speed int) api.Spot { return api.Spot{At: at, Speed: speed} }

func spots(numbers ...int) []api.Spot {
	var list []api.Spot
	for i := 0; i < len(numbers); i += 2 {
		list = append(list, spot(numbers[i], numbers[i+1]))
	}
	return list
}

// every lists all states of an arm, by position, then by speed.
func every(a api.Arm) []api.Spot {
	var list []api.Spot
	for p := 0; p <= a.Last; p++ {
		for v := -a.Speed; v <= a.Speed; v++ {
			list = append(list, spot(p, v))
		}
	}
	return list
}

// tracking lists the states in which an arm is on track.
func tracking(a api.Arm, target int) []api.Spot {
	var list []api.Spot
	for _, s := range every(a) {
		if max(s.At-target, target-s.At) <= a.Gate && max(s.Speed, -s.Speed) <= a.Slow {
			list = append(list, s)
		}
	}
	return list
}

// step is a step as the chapter says it: the state after it, and whether the arm crashes instead.
func step(a api.Arm, s api.Spot, command, shock int) (next api.Spot, crash bool) {
	v := s.Speed + command + shock
	p := s.At + v
	if v < -a.Speed || v > a.Speed || p < 0 || p > a.Last {
		return api.Spot{}, true
	}
	return spot(p, v), false
}

// surely tells whether a command leads without a crash to a good state, whatever the shock is.
func surely(a api.Arm, s api.Spot, command int, good func(api.Spot) bool) bool {
	sure := true
	for shock := -a.Shake; shock <= a.Shake; shock++ {
		next, crash := step(a, s, command, shock)
		sure = sure && !crash && good(next)
	}
	return sure
}

// first is the lowest command that surely leads to a good state, if there is one.
func first(a api.Arm, s api.Spot, good func(api.Spot) bool) (command int, found bool) {
	for c := -a.Force; c <= a.Force; c++ {
		if surely(a, s, c, good) {
			return c, true
		}
	}
	return 0, false
}

// among returns a closure that tells whether a state is in a list.
func among(list []api.Spot) func(api.Spot) bool {
	in := map[api.Spot]bool{}
	for _, s := range list {
		in[s] = true
	}
	return func(s api.Spot) bool { return in[s] }
}

// union puts together all the sets of some states in which an arm can stay for ever, trying each set that there is.
func union(a api.Arm, list []api.Spot) []api.Spot {
	leads := make([][]int, len(list)) // by state: to which sets its commands lead, as numbers
	for i, s := range list {
		for c := -a.Force; c <= a.Force; c++ {
			to := 0
			inside := surely(a, s, c, func(next api.Spot) bool {
				k := slices.Index(list, next)
				to |= 1 << max(k, 0)
				return k >= 0
			})
			if inside {
				leads[i] = append(leads[i], to)
			}
		}
	}
	all := 0
	for set := range 1 << len(list) {
		closed := true
		for i := range list {
			out := func(to int) bool { return to&^set == 0 }
			closed = closed && (set>>i&1 == 0 || slices.ContainsFunc(leads[i], out))
		}
		if closed {
			all |= set
		}
	}
	var in []api.Spot
	for i, s := range list {
		if all>>i&1 == 1 {
			in = append(in, s)
		}
	}
	return in
}

// lasting lists those of some states from which an arm can go on among them for as many steps as there are states, and so for ever.
func lasting(a api.Arm, list []api.Spot) []api.Spot {
	for range list {
		good := among(list)
		var next []api.Spot
		for _, s := range list {
			if _, found := first(a, s, good); found {
				next = append(next, s)
			}
		}
		list = next
	}
	return list
}

// game is an arm against its shocks: it wins if it is there in time.
type game struct {
	arm   api.Arm
	there func(api.Spot) bool
	seen  map[round]bool
}

type round struct {
	s    api.Spot
	left int
}

func newGame(a api.Arm, there []api.Spot) game {
	return game{a, among(there), map[round]bool{}}
}

// won tells whether the arm is there after at most so many steps, whatever the shocks are.
func (g game) won(s api.Spot, left int) bool {
	if g.there(s) || left == 0 {
		return g.there(s)
	}
	won, seen := g.seen[round{s, left}]
	if !seen {
		_, won = first(g.arm, s, func(next api.Spot) bool { return g.won(next, left-1) })
		g.seen[round{s, left}] = won
	}
	return won
}

// steps are the least steps that win, and the lowest command for them; lost states have none.
func (g game) steps(s api.Spot) (steps, command int, e api.Errno) {
	for n := range len(every(g.arm)) {
		if g.won(s, n) {
			command, _ = first(g.arm, s, func(next api.Spot) bool { return g.won(next, max(n-1, 0)) })
			return n, command, api.OK
		}
	}
	return 0, 0, api.ErrNone
}

// small are all arms with up to 5 positions, low limits, and each of some forces.
func small() []api.Arm {
	var all []api.Arm
	for i := range 5 * 3 * 3 * 2 {
		for _, force := range []int{0, 1, 3} {
			a := api.Arm{Last: i % 5, Speed: i / 5 % 3, Force: force, Shake: i / 15 % 3, Gate: i / 45 % 2}
			for slow := 0; slow <= a.Speed; slow++ {
				a.Slow = slow
				all = append(all, a)
			}
		}
	}
	return all
}

// someArm is any arm up to a largest one.
func someArm(r *rand.Rand, largest api.Arm) api.Arm {
	a := api.Arm{
		Last: r.IntN(largest.Last + 1), Speed: r.IntN(largest.Speed + 1), Force: r.IntN(largest.Force + 1),
		Shake: r.IntN(largest.Shake + 1), Gate: r.IntN(largest.Gate + 1),
	}
	a.Slow = r.IntN(a.Speed + 1)
	return a
}

// strongArm is an arm up to a largest one that can bear its shocks, and so has ways to most targets.
func strongArm(r *rand.Rand, largest api.Arm) api.Arm {
	between := func(low, high int) int { return low + r.IntN(high-low+1) }
	a := api.Arm{Last: between(8, largest.Last), Shake: between(0, largest.Shake)}
	a.Force = between(min(2*a.Shake+1, largest.Force), largest.Force)
	a.Gate = between(2*a.Shake, largest.Gate)
	a.Speed = between(3*a.Shake, largest.Speed)
	a.Slow = between(min(2*a.Shake, a.Speed), a.Speed)
	return a
}

// medium are at least so many arms of which all states can be tried.
func medium(count int) []api.Arm {
	r := rand.New(rand.NewPCG(6, uint64(count)))
	largest := api.Arm{Last: 14, Speed: 6, Force: api.MaxForce, Shake: api.MaxShake, Gate: api.MaxGate}
	all := []api.Arm{armA(), armB()}
	for len(all) < count {
		all = append(all, someArm(r, largest), strongArm(r, largest), strongArm(r, largest))
	}
	return all
}

// large are at least so many arms: some at the limits of the chapter, and others of any size up to these.
func large(count int) []api.Arm {
	r := rand.New(rand.NewPCG(60, uint64(count)))
	all := []api.Arm{
		armL(),
		{Last: 40, Speed: 8, Force: 4, Shake: 0, Gate: 0, Slow: 0},
		{Last: 40, Speed: 8, Force: 4, Shake: 1, Gate: 4, Slow: 8},
		{Last: 40, Speed: 6, Force: 4, Shake: 2, Gate: 4, Slow: 6},
		{Last: 40, Speed: 8, Force: 1, Shake: 0, Gate: 0, Slow: 8},
		{Last: 40, Speed: 1, Force: 1, Shake: 0, Gate: 0, Slow: 0},
		{Last: 40, Speed: 8, Force: 0, Shake: 2, Gate: 4, Slow: 8},
		{Last: 40},
	}
	for len(all) < count {
		all = append(all, someArm(r, armL()), strongArm(r, armL()))
	}
	return all
}

// never is more steps than any state has: those of a lost one.
const never = 1 << 20

// seek is an arm and a target, whose steps are asked for once for each state.
type seek struct {
	t      *testing.T
	arm    api.Arm
	target int
	known  map[api.Spot]int
}

func newSeek(t *testing.T, a api.Arm, target int) seek {
	return seek{t, a, target, map[api.Spot]int{}}
}

// steps are the steps of a state, never if it is lost.
func (k seek) steps(s api.Spot) int {
	k.t.Helper()
	if n, found := k.known[s]; found {
		return n
	}
	n, _, e := Steps(k.arm, k.target, s)
	switch {
	case e == api.ErrNone:
		n = never
	case e != api.OK || n < 0 || n >= never:
		k.t.Fatalf("Steps of %v, %d, %v = %d, %d", k.arm, k.target, s, n, e)
	}
	k.known[s] = n
	return n
}

// brokenArms are arms each of which is not valid for one reason.
func brokenArms() []api.Arm {
	var all []api.Arm
	for _, change := range []func(a *api.Arm){
		func(a *api.Arm) { a.Last = -1 },
		func(a *api.Arm) { a.Last = api.MaxLast + 1 },
		func(a *api.Arm) { a.Speed, a.Slow = -1, -1 },
		func(a *api.Arm) { a.Speed, a.Slow = -1, 0 },
		func(a *api.Arm) { a.Speed = api.MaxSpeed + 1 },
		func(a *api.Arm) { a.Force = -1 },
		func(a *api.Arm) { a.Force = api.MaxForce + 1 },
		func(a *api.Arm) { a.Shake = -1 },
		func(a *api.Arm) { a.Shake = api.MaxShake + 1 },
		func(a *api.Arm) { a.Gate = -1 },
		func(a *api.Arm) { a.Gate = api.MaxGate + 1 },
		func(a *api.Arm) { a.Slow = -1 },
		func(a *api.Arm) { a.Slow = a.Speed + 1 },
		func(a *api.Arm) { a.Speed, a.Slow = 0, 1 },
	} {
		a := armA()
		change(&a)
		all = append(all, a)
	}
	return all
}
