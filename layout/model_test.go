package layout

import (
	"fmt"
	"math/rand/v2"
	"slices"
	"testing"

	"platter/api"
	"platter/zones"
)

func zone(cylinders, sectors int) api.Zone {
	return api.Zone{Cylinders: cylinders, Sectors: sectors}
}

func message(id, stamp, sector int) api.Defect {
	return api.Defect{Id: id, Stamp: stamp, Sector: sector}
}

// example is the format F of the chapter.
func example() api.Format {
	d := api.Disk{Heads: 2, Turn: 60, Zones: []api.Zone{zone(2, 6), zone(1, 5)}, HeadSkew: 10, CylSkew: 25, HeadSwitch: api.Span{Low: 4, High: 12}, CylSwitch: api.Span{Low: 20, High: 30}}
	return api.Format{Disk: d, Spares: 2, Primary: []int{3, 20}, Grown: []api.Defect{message(1, 5, 4), message(2, 9, 22), message(3, 7, 33), message(4, 8, 23), message(5, 6, 30)}}
}

// flat is a format of one head and zones of one cylinder, with so many sectors each, of which nothing is bad.
func flat(spares int, sectors ...int) api.Format {
	f := api.Format{Disk: api.Disk{Heads: 1, Turn: 720}, Spares: spares}
	for _, n := range sectors {
		f.Disk.Zones = append(f.Disk.Zones, zone(1, n))
	}
	return f
}

// largest is a format of the largest disk, with as much of everything as there can be.
func largest() api.Format {
	z := zone(api.MaxCylinders, api.MaxSectors)
	f := api.Format{Disk: api.Disk{Heads: api.MaxHeads, Turn: 960, Zones: []api.Zone{z, z, z, z}}, Spares: api.MaxSpares}
	for i := range api.MaxPrimary {
		f.Primary = append(f.Primary, 5119-85*(api.MaxPrimary-1)+85*i)
	}
	for i := range api.MaxGrown {
		f.Grown = append(f.Grown, message(api.MaxDefect-i, api.MaxStamp, 1279-i))
	}
	return f
}

func sizeOf(f api.Format) int {
	n, _ := zones.Size(f.Disk)
	return n
}

// zonesOf is the zone of each sector.
func zonesOf(d api.Disk) []int {
	var all []int
	for i, z := range d.Zones {
		all = append(all, slices.Repeat([]int{i}, z.Cylinders*d.Heads*z.Sectors)...)
	}
	return all
}

// truth is what the chapter says of a format, followed word by word.
type truth struct {
	zones  []int // by sector
	blocks int
	where  map[int]int  // by block, but for those that are lost
	bad    map[int]bool // the sectors that are primary or were given up
	spares [][]int      // by zone, also those that are not free
}

func truthOf(f api.Format) truth {
	t := truth{zones: zonesOf(f.Disk), where: map[int]int{}, bad: map[int]bool{}, spares: make([][]int, len(f.Disk.Zones))}
	for _, s := range f.Primary {
		t.bad[s] = true
	}
	isSpare := map[int]bool{}
	for s := sizeOf(f) - 1; s >= 0; s-- {
		if z := t.zones[s]; !t.bad[s] && len(t.spares[z]) < f.Spares {
			t.spares[z] = append([]int{s}, t.spares[z]...)
			isSpare[s] = true
		}
	}
	for s := range sizeOf(f) {
		if !t.bad[s] && !isSpare[s] {
			t.where[t.blocks] = s
			t.blocks++
		}
	}
	for left := slices.Clone(f.Grown); len(left) > 0; {
		next := 0
		for i, m := range left {
			if m.Stamp < left[next].Stamp || m.Stamp == left[next].Stamp && m.Id < left[next].Id {
				next = i
			}
		}
		t.grow(left[next].Sector)
		left = slices.Delete(left, next, next+1)
	}
	return t
}

// holder is the block that has a sector, -1 if none has it.
func (t truth) holder(sector int) int {
	for block, s := range t.where {
		if s == sector {
			return block
		}
	}
	return -1
}

// free are the free spares of a zone.
func (t truth) free(zone int) []int {
	var free []int
	for _, s := range t.spares[zone] {
		if !t.bad[s] && t.holder(s) < 0 {
			free = append(free, s)
		}
	}
	return free
}

func (t truth) grow(sector int) {
	if t.bad[sector] {
		return
	}
	t.bad[sector] = true
	block := t.holder(sector)
	if block < 0 {
		return
	}
	delete(t.where, block)
	z := t.zones[sector]
	for i := 0; i < len(t.spares); i, z = i+1, (z+1)%len(t.spares) {
		if free := t.free(z); len(free) > 0 {
			t.where[block] = free[0]
			return
		}
	}
}

// given are the sectors that are primary or were given up.
func (t truth) given(size int) []int {
	var given []int
	for s := range size {
		if t.bad[s] {
			given = append(given, s)
		}
	}
	return given
}

// lost are the blocks without a sector.
func (t truth) lost() []int {
	var lost []int
	for b := range t.blocks {
		if _, found := t.where[b]; !found {
			lost = append(lost, b)
		}
	}
	return lost
}

// pattern makes random formats of one kind.
type pattern struct {
	heads, zones, cylinders, sectors int // at most
	spares, primary, grown           int // at most
	chase                            bool
}

// random is a format of a pattern. Its messages come in no order, some of them more than once, with few different stamps; if they chase, most of them hit the sector that the block 0 or 1 has then.
func (p pattern) random(r *rand.Rand) api.Format {
	f := api.Format{Disk: api.Disk{Heads: 1 + r.IntN(p.heads), Turn: 720}, Spares: r.IntN(p.spares + 1)}
	for range 1 + r.IntN(p.zones) {
		counts := []int{1, 2, 3, 4, 5, 6, 8, 9, 10, 12, 15, 16}
		f.Disk.Zones = append(f.Disk.Zones, zone(1+r.IntN(p.cylinders), counts[r.IntN(p.sectors)]))
	}
	size := sizeOf(f)
	primary := r.Perm(size)
	f.Primary = primary[:r.IntN(min(p.primary, size)+1)]
	slices.Sort(f.Primary)
	ids := r.Perm(api.MaxDefect + 1)
	for i, count := 0, r.IntN(p.grown+1); len(f.Grown) < count; i++ {
		m := message(ids[i], 10+r.IntN(8), r.IntN(size))
		if p.chase {
			m.Stamp = i
		}
		if s, found := truthOf(f).where[r.IntN(2)]; found && p.chase && r.IntN(4) > 0 {
			m.Sector = s
		}
		f.Grown = append(f.Grown, m)
		if len(f.Grown) < count && r.IntN(6) == 0 {
			f.Grown = append(f.Grown, f.Grown[r.IntN(len(f.Grown))])
		}
	}
	r.Shuffle(len(f.Grown), func(i, j int) { f.Grown[i], f.Grown[j] = f.Grown[j], f.Grown[i] })
	return f
}

// many are formats of all sizes: tiny ones, ones with hardly any spares, ones without blocks, ones in which all runs out.
func many() []api.Format {
	r := rand.New(rand.NewPCG(3, 14))
	all := []api.Format{example(), flat(0, 1), flat(1, 1), flat(20, 3, 2), flat(1, 2, 2, 2)}
	for _, p := range []pattern{
		{heads: 1, zones: 2, cylinders: 1, sectors: 4, spares: 2, primary: 2, grown: 4},
		{heads: 1, zones: 4, cylinders: 1, sectors: 3, spares: 2, primary: 1, grown: 6, chase: true},
		{heads: 2, zones: 3, cylinders: 2, sectors: 4, spares: 4, primary: 8, grown: 20},
		{heads: 2, zones: 4, cylinders: 1, sectors: 5, spares: 3, primary: 4, grown: 30, chase: true},
		{heads: 3, zones: 2, cylinders: 2, sectors: 8, spares: 20, primary: 60, grown: 12},
		{heads: 1, zones: 2, cylinders: 1, sectors: 3, spares: 3, primary: 8, grown: 3},
	} {
		for range 60 {
			all = append(all, p.random(r))
		}
	}
	return all
}

// allPlaces are the sectors of all blocks of a format, -1 for one that is lost.
func allPlaces(t *testing.T, f api.Format) []int {
	t.Helper()
	n, e := Blocks(f)
	if e != api.OK {
		t.Fatalf("Blocks of %v: %d", f, e)
	}
	where := make([]int, n)
	for b := range where {
		s, e := Where(f, b)
		if e == api.ErrNone {
			s = -1
		} else if e != api.OK {
			t.Fatalf("Where of %d of %v: %d", b, f, e)
		}
		where[b] = s
	}
	return where
}

// answers are the results of all functions for a format, as a text.
func answers(t *testing.T, f api.Format) string {
	t.Helper()
	holders := make([]int, sizeOf(f))
	for s := range holders {
		b, e := Holder(f, s)
		holders[s] = 100*b + int(e)
	}
	given, e1 := Given(f)
	free, e2 := Free(f)
	lost, e3 := Lost(f)
	bears, e4 := Bears(f)
	again, e5 := Again(f)
	merged, e6 := Merge(f, nil)
	return fmt.Sprint(Check(f), allPlaces(t, f), holders, given, e1, free, e2, lost, e3, bears, e4, again, e5, merged, e6)
}

// grown is a format with further messages, whose stamps are greater than all others, for some sectors in turn; false if there is no room for them.
func grown(f api.Format, sectors ...int) (api.Format, bool) {
	stamp, used := -1, map[int]bool{}
	f.Grown = slices.Clone(f.Grown)
	for _, m := range f.Grown {
		stamp = max(stamp, m.Stamp)
		used[m.Id] = true
	}
	id := api.MaxDefect
	for _, s := range sectors {
		for used[id] {
			id--
		}
		stamp++
		used[id] = true
		f.Grown = append(f.Grown, message(id, stamp, s))
	}
	return f, len(f.Grown) <= api.MaxGrown && stamp <= api.MaxStamp
}

// broken are formats each of which is not valid for one reason, which is not its disk.
func broken() []api.Format {
	var all []api.Format
	for _, change := range []func(f *api.Format){
		func(f *api.Format) { f.Spares = -1 },
		func(f *api.Format) { f.Spares = api.MaxSpares + 1 },
		func(f *api.Format) { f.Primary = []int{-1, 3} },
		func(f *api.Format) { f.Primary = []int{3, 34} },
		func(f *api.Format) { f.Primary = []int{34} },
		func(f *api.Format) { f.Primary = []int{3, 3} },
		func(f *api.Format) { f.Primary = []int{20, 3} },
		func(f *api.Format) { f.Primary = []int{3, 20, 19} },
		func(f *api.Format) { f.Grown[0].Id = -1 },
		func(f *api.Format) { f.Grown[4].Id = api.MaxDefect + 1 },
		func(f *api.Format) { f.Grown[0].Stamp = -1 },
		func(f *api.Format) { f.Grown[4].Stamp = api.MaxStamp + 1 },
		func(f *api.Format) { f.Grown[0].Sector = -1 },
		func(f *api.Format) { f.Grown[4].Sector = 34 },
		func(f *api.Format) { f.Grown = slices.Repeat(f.Grown[:1], api.MaxGrown+1) },
	} {
		f := example()
		change(&f)
		all = append(all, f)
	}
	long := largest()
	long.Primary = append([]int{0}, long.Primary...)
	return append(all, long)
}

// clashing are formats whose messages clash, whichever of their numbers differ.
func clashing() []api.Format {
	var all []api.Format
	for _, m := range []api.Defect{message(1, 5, 5), message(1, 6, 4), message(5, 5, 4), message(3, 7, 32)} {
		last, first := example(), example()
		last.Grown = append(last.Grown, m)
		first.Grown = append([]api.Defect{m, m}, first.Grown...)
		all = append(all, last, first)
	}
	return all
}
