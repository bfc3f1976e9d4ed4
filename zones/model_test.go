package zones

import (
	"testing"

	"platter/api"
)

func span(low, high int) api.Span { return api.Span{Low: low, High: high} }

func zone(cylinders, sectors int) api.Zone {
	return api.Zone{Cylinders: cylinders, Sectors: sectors}
}

// example is the disk D of the chapter.
func example() api.Disk {
	return api.Disk{Heads: 2, Turn: 60, Zones: []api.Zone{{Cylinders: 2, Sectors: 6}, {Cylinders: 1, Sectors: 5}}, HeadSkew: 10, CylSkew: 25, HeadSwitch: span(4, 12), CylSwitch: span(20, 30)}
}

// least is the smallest disk that there is, largest the largest one.
func least() api.Disk {
	return api.Disk{Heads: 1, Turn: 1, Zones: []api.Zone{{Cylinders: 1, Sectors: 1}}}
}

func largest() api.Disk {
	z := api.Zone{Cylinders: api.MaxCylinders, Sectors: api.MaxSectors}
	return api.Disk{Heads: api.MaxHeads, Turn: 960, Zones: []api.Zone{z, z, z, z}, HeadSkew: 959, CylSkew: 959, HeadSwitch: span(0, api.MaxSwitch), CylSwitch: span(api.MaxSwitch, api.MaxSwitch)}
}

// small are disks of few sectors, so that all runs of each can be tried: one head, one cylinder, a single track, switches of several turns, spans of one number, skews of 0 and of Turn - 1.
func small() []api.Disk {
	var all []api.Disk
	zones := [][]api.Zone{{zone(1, 1)}, {zone(1, 4)}, {zone(3, 2)}, {zone(1, 3), zone(2, 4)}, {zone(2, 1), zone(1, 6), zone(1, 2), zone(1, 12)}}
	skews := [][2]int{{0, 0}, {5, 7}, {11, 3}, {4, 11}}
	switches := [][2]api.Span{{span(0, 0), span(0, 0)}, {span(2, 5), span(7, 8)}, {span(5, 17), span(3, 40)}, {span(12, 12), span(24, 36)}}
	for _, z := range zones {
		for heads := 1; heads <= 4; heads += 1 + len(z)/2 {
			for _, skew := range skews {
				for _, s := range switches {
					all = append(all, api.Disk{Heads: heads, Turn: 12, Zones: z, HeadSkew: skew[0], CylSkew: skew[1], HeadSwitch: s[0], CylSwitch: s[1]})
				}
			}
		}
	}
	return append(all, example(), least())
}

// spot is what a test knows of a sector: its place, how long it lasts, and the angle at which it begins.
type spot struct {
	place     api.Place
	ticks, at int
}

// spots lists the sectors of a disk straight from the definitions of the chapter: the offset is summed up from the first track for each one anew.
func spots(d api.Disk) []spot {
	var all []spot
	cylinder := 0
	for _, z := range d.Zones {
		for c := 0; c < z.Cylinders; c++ {
			for h := 0; h < d.Heads; h++ {
				offset := (cylinder*(d.Heads-1)+h)*d.HeadSkew + cylinder*d.CylSkew
				for s := 0; s < z.Sectors; s++ {
					ticks := d.Turn / z.Sectors
					all = append(all, spot{api.Place{Cylinder: cylinder, Head: h, Sector: s}, ticks, (offset + s*ticks) % d.Turn})
				}
			}
			cylinder++
		}
	}
	return all
}

// simulate turns the medium tick by tick, and returns the ticks of a run and the turns that it loses, if its switches take what takes says.
func simulate(d api.Disk, from, count int, takes func(s api.Span) int) (ticks, lost int) {
	all := spots(d)
	start := all[from].at
	now := start
	for n := from; n < from+count; n++ {
		if n > from && all[n].place.Sector == 0 {
			skew, s := d.CylSkew, d.CylSwitch
			if all[n].place.Cylinder == all[n-1].place.Cylinder {
				skew, s = d.HeadSkew, d.HeadSwitch
			}
			end := now
			for now += takes(s); now%d.Turn != all[n].at; now++ {
			}
			lost += (now - end - skew) / d.Turn
		}
		now += all[n].ticks
	}
	return now - start, lost
}

func low(s api.Span) int  { return s.Low }
func high(s api.Span) int { return s.High }

// turns returns functions that let switches take different times within their spans.
func turns() []func(s api.Span) int {
	n := 0
	return []func(s api.Span) int{low, high,
		func(s api.Span) int { return (s.Low + s.High) / 2 },
		func(s api.Span) int { n++; return s.Low + (n*7)%(s.High-s.Low+1) },
		func(s api.Span) int {
			n++
			if n%3 == 0 {
				return s.Low
			}
			return s.High
		},
	}
}

func run(t *testing.T, d api.Disk, from, count int) api.Span {
	t.Helper()
	s, e := Run(d, from, count)
	if e != api.OK {
		t.Fatalf("Run of %v from %d of %d: %d", d, from, count, e)
	}
	return s
}

// broken returns disks each of which is not valid for one reason.
func broken() []api.Disk {
	var all []api.Disk
	for _, change := range []func(d *api.Disk){
		func(d *api.Disk) { d.Heads = 0 },
		func(d *api.Disk) { d.Heads = -1 },
		func(d *api.Disk) { d.Heads = api.MaxHeads + 1 },
		func(d *api.Disk) { d.Turn, d.HeadSkew, d.CylSkew = 0, 0, 0 },
		func(d *api.Disk) { d.Turn = -60 },
		func(d *api.Disk) { d.Turn, d.Zones = 1001, []api.Zone{zone(1, 1)} },
		func(d *api.Disk) { d.Zones = nil },
		func(d *api.Disk) { d.Zones = []api.Zone{} },
		func(d *api.Disk) { d.Zones = []api.Zone{zone(1, 1), zone(1, 1), zone(1, 1), zone(1, 1), zone(1, 1)} },
		func(d *api.Disk) { d.Zones[0].Cylinders = 0 },
		func(d *api.Disk) { d.Zones[1].Cylinders = -1 },
		func(d *api.Disk) { d.Zones[1].Cylinders = api.MaxCylinders + 1 },
		func(d *api.Disk) { d.Zones[1].Sectors = 0 },
		func(d *api.Disk) { d.Zones[1].Sectors = -5 },
		func(d *api.Disk) { d.Turn, d.Zones = 68, []api.Zone{zone(1, 17)} },
		func(d *api.Disk) { d.Zones[0].Sectors = 7 },
		func(d *api.Disk) { d.Zones[1].Sectors = 8 },
		func(d *api.Disk) { d.HeadSkew = -1 },
		func(d *api.Disk) { d.HeadSkew = 60 },
		func(d *api.Disk) { d.CylSkew = -1 },
		func(d *api.Disk) { d.CylSkew = 60 },
		func(d *api.Disk) { d.HeadSwitch = span(-1, 12) },
		func(d *api.Disk) { d.HeadSwitch = span(-2, -1) },
		func(d *api.Disk) { d.HeadSwitch = span(13, 12) },
		func(d *api.Disk) { d.HeadSwitch = span(4, 2001) },
		func(d *api.Disk) { d.CylSwitch = span(-1, 30) },
		func(d *api.Disk) { d.CylSwitch = span(-2, -1) },
		func(d *api.Disk) { d.CylSwitch = span(31, 30) },
		func(d *api.Disk) { d.CylSwitch = span(20, 2001) },
		func(d *api.Disk) { d.CylSwitch = span(2001, 2001) },
	} {
		d := example()
		change(&d)
		all = append(all, d)
	}
	return append(all, api.Disk{})
}
