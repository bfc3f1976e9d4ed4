// Package zones is layer 1, the geometry of a disk: see shared/doc/01-zones.md.
package zones

import "platter/api"

// Check returns ErrDisk unless a disk is valid.
func Check(d api.Disk) api.Errno {
	_, e := checked(d)
	return e
}

// Size returns the number of all sectors.
func Size(d api.Disk) (int, api.Errno) {
	c, e := checked(d)
	if e != api.OK {
		return 0, e
	}
	return c.size(), api.OK
}

// Number returns the number of the sector at a place.
func Number(d api.Disk, p api.Place) (int, api.Errno) {
	c, e := checked(d)
	if e != api.OK {
		return 0, e
	}
	for t := range c.tracks {
		if t.cylinder == p.Cylinder && t.head == p.Head && within(p.Sector, 0, t.sectors-1) {
			return t.first + p.Sector, api.OK
		}
	}
	return 0, api.ErrArg
}

// Place returns the place of the sector with a number.
func Place(d api.Disk, n int) (api.Place, api.Errno) {
	c, e := checked(d)
	if e != api.OK {
		return api.Place{}, e
	}
	t, found := c.trackOf(n)
	if !found {
		return api.Place{}, api.ErrArg
	}
	return api.Place{Cylinder: t.cylinder, Head: t.head, Sector: n - t.first}, api.OK
}

// Angle returns the angle at which a sector begins, and how many ticks it lasts.
func Angle(d api.Disk, n int) (at, ticks int, e api.Errno) {
	c, e := checked(d)
	if e != api.OK {
		return 0, 0, e
	}
	t, found := c.trackOf(n)
	if !found {
		return 0, 0, api.ErrArg
	}
	return c.begins(t, n), t.ticks, api.OK
}

// Wait returns the least number of ticks from a time until a sector begins.
func Wait(d api.Disk, n, time int) (int, api.Errno) {
	c, e := checked(d)
	if e != api.OK {
		return 0, e
	}
	t, found := c.trackOf(n)
	if !found || !within(time, 0, api.MaxTime) {
		return 0, api.ErrArg
	}
	return modulo(c.begins(t, n)-time, c.Turn), api.OK
}

// Run returns the least and the greatest number of ticks that a run of sectors can take.
func Run(d api.Disk, from, count int) (api.Span, api.Errno) {
	c, e := checked(d)
	if e != api.OK {
		return api.Span{}, e
	}
	size := c.size()
	// The count is held against what is left, because from + count may exceed an int.
	if !within(from, 0, size-1) || !within(count, 1, size-from) {
		return api.Span{}, api.ErrArg
	}
	return c.run(from, count), api.OK
}

// Lost returns the greatest number of turns that can be lost in a run of all sectors.
func Lost(d api.Disk) (int, api.Errno) {
	c, e := checked(d)
	if e != api.OK {
		return 0, e
	}
	lost := 0
	for i, count := range c.switches() {
		k := c.kinds[i]
		lost += count * ((c.gap(k, k.High) - k.skew) / c.Turn)
	}
	return lost, api.OK
}

// Skews returns the skews, multiples of step, with which the run of all sectors takes the fewest ticks in the worst case, and these ticks.
func Skews(d api.Disk, step int) (head, cyl, ticks int, e api.Errno) {
	c, e := checked(d)
	if e != api.OK {
		return 0, 0, 0, e
	}
	if !within(step, 1, c.Turn) {
		return 0, 0, 0, api.ErrArg
	}
	// The ticks of the two kinds of switches are added up, so each skew can be chosen by itself.
	counts := c.switches()
	for i, count := range counts {
		c.kinds[i].skew = c.best(c.kinds[i], count, step)
	}
	run := c.run(0, c.size())
	return c.kinds[headSwitch].skew, c.kinds[cylSwitch].skew, run.High, api.OK
}
