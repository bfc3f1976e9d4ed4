package arm

import "platter/api"

// course is the way of an arm to a target: the steps of each state that is not lost.
type course struct {
	checked
	steps map[api.Spot]int
}

// course returns the way to a target. It is searched from the states where the arm is there, back to those before them, so that each state is looked at once.
func (a checked) course(target int) course {
	c := course{a, map[api.Spot]int{}}
	found := a.ordered(a.stays(target))
	for _, s := range found {
		c.steps[s] = 0
	}
	// How many shocks lead to states that have been found, by the position before a step and the speed with its command.
	counts := map[api.Spot]int{}
	for i := 0; i < len(found); i++ {
		s := found[i]
		for shock := -a.Shake; shock <= a.Shake; shock++ {
			given := api.Spot{At: s.At - s.Speed, Speed: s.Speed - shock}
			counts[given]++
			if counts[given] == 2*a.Shake+1 {
				found = append(found, c.extend(given, c.steps[s]+1)...)
			}
		}
	}
	return c
}

// extend notes the steps of all states that have none yet, and from which some command gives the arm this speed at this position. It returns these states.
func (c course) extend(given api.Spot, steps int) []api.Spot {
	var added []api.Spot
	for command := -c.Force; command <= c.Force; command++ {
		s := api.Spot{At: given.At, Speed: given.Speed - command}
		if _, found := c.steps[s]; !found && c.has(s) {
			c.steps[s] = steps
			added = append(added, s)
		}
	}
	return added
}

// command returns the command of a state that is not lost.
func (c course) command(s api.Spot) int {
	most := max(c.steps[s]-1, 0) // where the arm is there already it stays
	nearer := func(next api.Spot) bool {
		steps, found := c.steps[next]
		return found && steps <= most
	}
	command, _ := c.lowest(s, nearer)
	return command
}
