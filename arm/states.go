package arm

import "platter/api"

// checked is an arm that is valid.
type checked struct {
	api.Arm
}

// set is a set of states of an arm. A crash leads to no state, and so into no set.
type set map[api.Spot]bool

func (l set) has(s api.Spot) bool { return l[s] }

func known(a api.Arm) (checked, api.Errno) {
	if !within(a.Last, 0, api.MaxLast) || !within(a.Speed, 0, api.MaxSpeed) || !within(a.Force, 0, api.MaxForce) ||
		!within(a.Shake, 0, api.MaxShake) || !within(a.Gate, 0, api.MaxGate) || !within(a.Slow, 0, a.Speed) {
		return checked{}, api.ErrArm
	}
	return checked{a}, api.OK
}

// knownFor returns the arm if the target is a position of it, and each of the states is one of it.
func knownFor(a api.Arm, target int, states ...api.Spot) (checked, api.Errno) {
	k, e := known(a)
	if e != api.OK {
		return checked{}, e
	}
	if !within(target, 0, k.Last) {
		return checked{}, api.ErrArg
	}
	for _, s := range states {
		if !k.has(s) {
			return checked{}, api.ErrSpot
		}
	}
	return k, api.OK
}

func within(n, low, high int) bool { return low <= n && n <= high }

// has tells whether a state is one of the arm.
func (a checked) has(s api.Spot) bool {
	return within(s.At, 0, a.Last) && within(s.Speed, -a.Speed, a.Speed)
}

// states yields all states, by position, then by speed.
func (a checked) states(yield func(api.Spot) bool) {
	for at := range a.Last + 1 {
		for speed := -a.Speed; speed <= a.Speed; speed++ {
			if !yield(api.Spot{At: at, Speed: speed}) {
				return
			}
		}
	}
}

// ordered lists a set by position, then by speed.
func (a checked) ordered(of set) []api.Spot {
	var list []api.Spot
	for s := range a.states {
		if of.has(s) {
			list = append(list, s)
		}
	}
	return list
}

// after returns where a step leads in which the speed is changed by so much. This need not be a state.
func after(s api.Spot, change int) api.Spot {
	speed := s.Speed + change
	return api.Spot{At: s.At + speed, Speed: speed}
}

// lowest returns the lowest command that surely leads from a state to some that are wanted, if there is one.
func (a checked) lowest(s api.Spot, wanted func(api.Spot) bool) (command int, found bool) {
trying:
	for c := -a.Force; c <= a.Force; c++ {
		for shock := -a.Shake; shock <= a.Shake; shock++ {
			if !wanted(after(s, c+shock)) {
				continue trying
			}
		}
		return c, true
	}
	return 0, false
}

// lasting returns the greatest set of states that are wanted in each of which some command surely leads into the set.
func (a checked) lasting(wanted func(api.Spot) bool) set {
	left := set{}
	for s := range a.states {
		if wanted(s) {
			left[s] = true
		}
	}
	for fewer := true; fewer; {
		fewer = false
		for s := range a.states {
			if !left.has(s) {
				continue
			}
			if _, found := a.lowest(s, left.has); !found {
				delete(left, s)
				fewer = true
			}
		}
	}
	return left
}

// onTrack returns a closure that tells whether the arm is on track in a state.
func (a checked) onTrack(target int) func(api.Spot) bool {
	return func(s api.Spot) bool {
		return within(s.At-target, -a.Gate, a.Gate) && within(s.Speed, -a.Slow, a.Slow)
	}
}

// stays returns the states in which the arm can stay.
func (a checked) stays(target int) set { return a.lasting(a.onTrack(target)) }

// safe returns the states from which the arm need never crash.
func (a checked) safe() set {
	return a.lasting(func(api.Spot) bool { return true })
}
