package layout

import (
	"slices"

	"platter/api"
	"platter/zones"
)

// What a sector that no block has is used for, and where a block is that is lost. They are below all numbers of blocks and sectors.
const (
	spare   = -1
	givenUp = -2
	nowhere = -1
)

// plan is a format that has been checked, and what its messages have led to.
type plan struct {
	api.Format
	starts  []int // by zone: its first sector; behind the last zone: the size of the disk
	uses    []int // by sector: the block that has it, spare (it is free), or givenUp
	sectors []int // by block: the sector that it has, or nowhere
}

func planned(f api.Format) (plan, api.Errno) {
	if e := Check(f); e != api.OK {
		return plan{}, e
	}
	p := formatted(f)
	for _, m := range inOrder(f.Grown...) {
		p.giveUp(m.Sector)
	}
	return p, api.OK
}

// formatted returns the plan of a format before its messages.
func formatted(f api.Format) plan {
	starts := zoneStarts(f.Disk)
	size := starts[len(f.Disk.Zones)]
	p := plan{Format: f, starts: starts, uses: slices.Repeat([]int{spare}, size)}
	for _, s := range p.Primary {
		p.uses[s] = givenUp
	}
	for z := range p.Disk.Zones {
		good := places(p.zone(z), spare)
		for _, n := range good[:max(len(good)-p.Spares, 0)] {
			s := p.starts[z] + n
			p.uses[s] = len(p.sectors)
			p.sectors = append(p.sectors, s)
		}
	}
	return p
}

// zoneStarts returns the number of the first sector of each zone of a valid disk, and the size of the disk.
func zoneStarts(d api.Disk) []int {
	var starts []int
	cylinder := 0
	for _, z := range d.Zones {
		first, _ := zones.Number(d, api.Place{Cylinder: cylinder})
		starts = append(starts, first)
		cylinder += z.Cylinders
	}
	size, _ := zones.Size(d)
	return append(starts, size)
}

// zone returns what the sectors of a zone are used for.
func (p plan) zone(z int) []int { return p.uses[p.starts[z]:p.starts[z+1]] }

// zoneOf returns the zone of a sector.
func (p plan) zoneOf(sector int) int {
	z := 0
	for sector >= p.starts[z+1] {
		z++
	}
	return z
}

// giveUp gives a sector up, and moves the block that has it, if there is one.
func (p plan) giveUp(sector int) {
	block := p.uses[sector]
	p.uses[sector] = givenUp
	if block < 0 {
		return
	}
	to := p.firstFree(p.zoneOf(sector))
	p.sectors[block] = to
	if to != nowhere {
		p.uses[to] = block
	}
}

// firstFree returns the first free spare of a zone, or of the first zone behind it that has one.
func (p plan) firstFree(zone int) int {
	count := len(p.Disk.Zones)
	for i := range count {
		z := (zone + i) % count
		if n := slices.Index(p.zone(z), spare); n >= 0 {
			return p.starts[z] + n
		}
	}
	return nowhere
}

func (p plan) given() []int { return places(p.uses, givenUp) }

func (p plan) lost() []int { return places(p.sectors, nowhere) }

// free returns how many spares of each zone are free.
func (p plan) free() []int {
	free := make([]int, len(p.Disk.Zones))
	for z := range free {
		free[z] = len(places(p.zone(z), spare))
	}
	return free
}

// places returns the places at which a number stands in a list.
func places(list []int, number int) []int {
	var found []int
	for i, n := range list {
		if n == number {
			found = append(found, i)
		}
	}
	return found
}
