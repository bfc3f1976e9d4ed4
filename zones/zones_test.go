package zones

import (
	"math"
	"slices"
	"testing"

	"platter/api"
)

// P1.1: Check.
func TestCheck(t *testing.T) {
	for i, d := range append(small(), largest()) {
		if e := Check(d); e != api.OK {
			t.Errorf("valid %d: Check = %d", i, e)
		}
	}
	for i, change := range []func(d *api.Disk){
		func(d *api.Disk) { d.Heads = 1 },
		func(d *api.Disk) { d.Heads = api.MaxHeads },
		func(d *api.Disk) { d.Turn, d.Zones = 1000, []api.Zone{zone(20, 10)} },
		func(d *api.Disk) { d.Turn, d.Zones = 64, []api.Zone{zone(20, 16), zone(1, 1), zone(1, 1), zone(1, 1)} },
		func(d *api.Disk) { d.HeadSkew, d.CylSkew = 0, 0 },
		func(d *api.Disk) { d.HeadSkew, d.CylSkew = 59, 59 },
		func(d *api.Disk) { d.HeadSwitch, d.CylSwitch = span(0, 2000), span(0, 0) },
		func(d *api.Disk) { d.HeadSwitch, d.CylSwitch = span(7, 7), span(2000, 2000) },
	} {
		d := example()
		change(&d)
		if e := Check(d); e != api.OK {
			t.Errorf("bound %d: Check = %d", i, e)
		}
	}
	for i, d := range broken() {
		if e := Check(d); e != api.ErrDisk {
			t.Errorf("broken %d: Check = %d", i, e)
		}
	}
}

// P1 and R1, R2: each function names the error of the disk first, and its other results are zero.
func TestDiskFirst(t *testing.T) {
	for i, d := range broken() {
		if n, e := Size(d); n != 0 || e != api.ErrDisk {
			t.Errorf("%d: Size = %d, %d", i, n, e)
		}
		if n, e := Lost(d); n != 0 || e != api.ErrDisk {
			t.Errorf("%d: Lost = %d, %d", i, n, e)
		}
		for _, n := range []int{-1, 0, 1} {
			if m, e := Number(d, api.Place{Sector: n}); m != 0 || e != api.ErrDisk {
				t.Errorf("%d: Number = %d, %d", i, m, e)
			}
			if p, e := Place(d, n); p != (api.Place{}) || e != api.ErrDisk {
				t.Errorf("%d: Place = %v, %d", i, p, e)
			}
			if at, ticks, e := Angle(d, n); at != 0 || ticks != 0 || e != api.ErrDisk {
				t.Errorf("%d: Angle = %d, %d, %d", i, at, ticks, e)
			}
			if w, e := Wait(d, n, n); w != 0 || e != api.ErrDisk {
				t.Errorf("%d: Wait = %d, %d", i, w, e)
			}
			if s, e := Run(d, 0, n); s != (api.Span{}) || e != api.ErrDisk {
				t.Errorf("%d: Run = %v, %d", i, s, e)
			}
			if h, c, k, e := Skews(d, n); h != 0 || c != 0 || k != 0 || e != api.ErrDisk {
				t.Errorf("%d: Skews = %d, %d, %d, %d", i, h, c, k, e)
			}
		}
	}
}

// P1: no argument, however far from any disk, lets a function panic.
func TestExtremes(t *testing.T) {
	ends := []int{math.MinInt, math.MinInt + 1, -1, 0, 1, math.MaxInt - 1, math.MaxInt}
	for _, a := range ends {
		for _, b := range ends {
			wild := api.Disk{Heads: a, Turn: b, Zones: []api.Zone{zone(b, a)}, HeadSkew: a, CylSkew: b, HeadSwitch: span(a, b), CylSwitch: span(b, a)}
			for _, d := range []api.Disk{wild, example(), largest()} {
				Check(d)
				Size(d)
				Number(d, api.Place{Cylinder: a, Head: b, Sector: a})
				Number(d, api.Place{Sector: b})
				Place(d, a)
				Angle(d, a)
				Wait(d, a, b)
				Run(d, a, b)
				Lost(d)
				Skews(d, a)
			}
		}
	}
	for _, far := range []int{math.MaxInt, math.MinInt} {
		if s, e := Run(example(), 1, far); s != (api.Span{}) || e != api.ErrArg {
			t.Errorf("Run of %d = %v, %d", far, s, e)
		}
	}
}

// R4: no argument is changed, and the same call has the same result.
func TestArgumentsKept(t *testing.T) {
	d := example()
	first := run(t, d, 0, 34)
	Skews(d, 7)
	Lost(d)
	want := example()
	if !slices.Equal(d.Zones, want.Zones) {
		t.Errorf("the zones are %v", d.Zones)
	}
	if again := run(t, d, 0, 34); again != first {
		t.Errorf("Run = %v, then %v", first, again)
	}
}

// P1.2: Size.
func TestSize(t *testing.T) {
	for i, x := range []struct {
		d    api.Disk
		want int
	}{{example(), 34}, {least(), 1}, {largest(), 5120}} {
		if n, e := Size(x.d); n != x.want || e != api.OK {
			t.Errorf("%d: Size = %d, %d", i, n, e)
		}
	}
	for i, d := range small() {
		if n, e := Size(d); n != len(spots(d)) || e != api.OK {
			t.Errorf("small %d: Size = %d, %d", i, n, e)
		}
	}
}

// P1.3, P1.4, P1.10: Number and Place, each the reverse of the other.
func TestEachSectorOnce(t *testing.T) {
	for i, d := range append(small(), largest()) {
		for n, s := range spots(d) {
			if m, e := Number(d, s.place); m != n || e != api.OK {
				t.Fatalf("%d: Number of %v = %d, %d", i, s.place, m, e)
			}
			if p, e := Place(d, n); p != s.place || e != api.OK {
				t.Fatalf("%d: Place of %d = %v, %d", i, n, p, e)
			}
		}
	}
}

// P1.10: a place that has no number in the list of all sectors has none for Number.
func TestNoOtherPlace(t *testing.T) {
	for i, d := range []api.Disk{example(), least(), small()[40]} {
		size, found := len(spots(d)), 0
		for c := -1; c < 8; c++ {
			for h := -1; h < 5; h++ {
				for s := -1; s < 17; s++ {
					p := api.Place{Cylinder: c, Head: h, Sector: s}
					n, e := Number(d, p)
					if e == api.OK {
						found++
						if q, e := Place(d, n); q != p || e != api.OK {
							t.Errorf("%d: Place of %d = %v, %d", i, n, q, e)
						}
					} else if n != 0 || e != api.ErrArg {
						t.Errorf("%d: Number of %v = %d, %d", i, p, n, e)
					}
				}
			}
		}
		if found != size {
			t.Errorf("%d: %d places have a number, not %d", i, found, size)
		}
	}
}

// P1.3: Number, with the places that there are not.
func TestNumber(t *testing.T) {
	for i, x := range []struct {
		p    api.Place
		want int
		e    api.Errno
	}{
		{api.Place{}, 0, api.OK},
		{api.Place{Cylinder: 1, Head: 1, Sector: 4}, 22, api.OK},
		{api.Place{Cylinder: 2, Head: 1, Sector: 4}, 33, api.OK},
		{api.Place{Cylinder: 3}, 0, api.ErrArg},
		{api.Place{Cylinder: -1}, 0, api.ErrArg},
		{api.Place{Head: 2}, 0, api.ErrArg},
		{api.Place{Head: -1}, 0, api.ErrArg},
		{api.Place{Sector: -1}, 0, api.ErrArg},
		{api.Place{Cylinder: 1, Sector: 6}, 0, api.ErrArg},
		{api.Place{Cylinder: 2, Sector: 5}, 0, api.ErrArg},
	} {
		if n, e := Number(example(), x.p); n != x.want || e != x.e {
			t.Errorf("%d: Number = %d, %d", i, n, e)
		}
	}
}

// P1.4 to P1.6: there is no sector below 0, nor from the size on.
func TestNoSector(t *testing.T) {
	if p, e := Place(example(), 24); p != (api.Place{Cylinder: 2}) || e != api.OK {
		t.Errorf("Place of 24 = %v, %d", p, e)
	}
	for _, n := range []int{-1, 34, 35, math.MinInt, math.MaxInt} {
		if p, e := Place(example(), n); p != (api.Place{}) || e != api.ErrArg {
			t.Errorf("Place of %d = %v, %d", n, p, e)
		}
		if at, ticks, e := Angle(example(), n); at != 0 || ticks != 0 || e != api.ErrArg {
			t.Errorf("Angle of %d = %d, %d, %d", n, at, ticks, e)
		}
		if w, e := Wait(example(), n, 0); w != 0 || e != api.ErrArg {
			t.Errorf("Wait for %d = %d, %d", n, w, e)
		}
	}
}

// P1.5: Angle.
func TestAngle(t *testing.T) {
	for i, x := range []struct{ n, at, ticks int }{{0, 0, 10}, {7, 20, 10}, {24, 10, 12}, {33, 8, 12}} {
		if at, ticks, e := Angle(example(), x.n); at != x.at || ticks != x.ticks || e != api.OK {
			t.Errorf("%d: Angle = %d, %d, %d", i, at, ticks, e)
		}
	}
	for i, d := range append(small(), largest()) {
		for n, s := range spots(d) {
			if at, ticks, e := Angle(d, n); at != s.at || ticks != s.ticks || e != api.OK {
				t.Fatalf("%d: Angle of %d = %d, %d, %d, not %d, %d", i, n, at, ticks, e, s.at, s.ticks)
			}
		}
	}
}

// P1.6: Wait, with the times that it takes and those that it does not.
func TestWait(t *testing.T) {
	for i, x := range []struct {
		n, time, want int
		e             api.Errno
	}{
		{7, 130, 10, api.OK}, {7, 20, 0, api.OK}, {7, 19, 1, api.OK}, {7, 21, 59, api.OK}, {0, 0, 0, api.OK},
		{24, api.MaxTime, 30, api.OK}, {24, api.MaxTime + 1, 0, api.ErrArg}, {24, -1, 0, api.ErrArg},
		{24, math.MaxInt, 0, api.ErrArg}, {24, math.MinInt, 0, api.ErrArg},
	} {
		if w, e := Wait(example(), x.n, x.time); w != x.want || e != x.e {
			t.Errorf("%d: Wait = %d, %d", i, w, e)
		}
	}
}

// P1.15: Wait is below Turn, and leads to the angle of the sector.
func TestWaitMeetsAngle(t *testing.T) {
	for i, d := range small() {
		for n := range spots(d) {
			at, _, _ := Angle(d, n)
			for time := 0; time < 3*d.Turn; time++ {
				w, e := Wait(d, n, time)
				if e != api.OK || w < 0 || w >= d.Turn || (time+w)%d.Turn != at {
					t.Fatalf("%d: Wait for %d at %d = %d, %d; the angle is %d", i, n, time, w, e, at)
				}
			}
		}
	}
}

// P1.7: Run, with the runs that there are not.
func TestRun(t *testing.T) {
	slow, one := example(), example()
	slow.HeadSwitch = span(70, 71)
	one.Heads, one.HeadSwitch = 1, span(0, api.MaxSwitch)
	for i, x := range []struct {
		d           api.Disk
		from, count int
		want        api.Span
		e           api.Errno
	}{
		{example(), 0, 6, span(60, 60), api.OK},
		{example(), 4, 4, span(50, 110), api.OK},
		{example(), 11, 2, span(45, 105), api.OK},
		{example(), 33, 1, span(12, 12), api.OK},
		{slow, 4, 4, span(110, 170), api.OK},
		{one, 0, 12, span(145, 205), api.OK},
		{least(), 0, 1, span(1, 1), api.OK},
		{example(), 0, 0, api.Span{}, api.ErrArg},
		{example(), 0, -1, api.Span{}, api.ErrArg},
		{example(), 0, 35, api.Span{}, api.ErrArg},
		{example(), 33, 2, api.Span{}, api.ErrArg},
		{example(), 34, 1, api.Span{}, api.ErrArg},
		{example(), 34, 0, api.Span{}, api.ErrArg},
		{example(), -1, 1, api.Span{}, api.ErrArg},
		{example(), -1, 2, api.Span{}, api.ErrArg},
	} {
		if s, e := Run(x.d, x.from, x.count); s != x.want || e != x.e {
			t.Errorf("%d: Run = %v, %d", i, s, e)
		}
	}
}

// P1.7, P1.11: whatever the switches take, a simulated run is within Run, and the shortest and the longest switches lead to its ends.
func TestWhateverSwitchesTake(t *testing.T) {
	for i, d := range small() {
		size := len(spots(d))
		for from := 0; from < size; from++ {
			for count := 1; count <= size-from; count += 1 + count/3 {
				s := run(t, d, from, count)
				for j, takes := range turns() {
					if ticks, _ := simulate(d, from, count, takes); ticks < s.Low || ticks > s.High {
						t.Fatalf("%d, %d: from %d of %d takes %d, Run = %v", i, j, from, count, ticks, s)
					}
				}
				least, _ := simulate(d, from, count, low)
				most, _ := simulate(d, from, count, high)
				if s != span(least, most) {
					t.Fatalf("%d: from %d of %d takes %d to %d, Run = %v", i, from, count, least, most, s)
				}
			}
		}
	}
}

// P1.12: two successive runs, and the ticks between them, are as long as the run of the sectors of both.
func TestTwoRuns(t *testing.T) {
	for i, d := range small() {
		all := spots(d)
		for from := range all {
			for count := 2; count <= len(all)-from; count += 1 + count/3 {
				both := run(t, d, from, count)
				for part := 1; part < count; part++ {
					a, b := run(t, d, from, part), run(t, d, from+part, count-part)
					between := api.Span{}
					if last := from + part - 1; all[last+1].place.Sector == 0 {
						pair := run(t, d, last, 2)
						read := all[last].ticks + all[last+1].ticks
						between = span(pair.Low-read, pair.High-read)
					}
					if sum := span(a.Low+b.Low+between.Low, a.High+b.High+between.High); sum != both {
						t.Fatalf("%d: from %d of %d and %d: %v, not %v", i, from, part, count-part, sum, both)
					}
				}
			}
		}
	}
}

// P1.12: with a narrower span of a switch the span of a run is not wider.
func TestNarrowerSwitch(t *testing.T) {
	for i, d := range small() {
		size := len(spots(d))
		for count := 1; count <= size; count++ {
			wide := run(t, d, 0, count)
			for cut := 1; cut <= 9; cut += 4 {
				narrow := d
				narrow.HeadSwitch.Low = min(d.HeadSwitch.Low+cut, d.HeadSwitch.High)
				narrow.CylSwitch.High = max(d.CylSwitch.High-cut, d.CylSwitch.Low)
				if s := run(t, narrow, 0, count); s.Low < wide.Low || s.High > wide.High {
					t.Fatalf("%d: of %d: %v is not within %v", i, count, s, wide)
				}
			}
		}
	}
}

// P1.8: Lost.
func TestLost(t *testing.T) {
	slow, one, fast, far := example(), example(), example(), example()
	slow.HeadSwitch = span(70, 71)
	one.Heads, one.HeadSwitch = 1, span(0, api.MaxSwitch)
	fast.HeadSkew, fast.CylSkew = 12, 30
	far.CylSwitch = span(20, 90)
	for i, x := range []struct {
		d    api.Disk
		want int
	}{{example(), 5}, {slow, 8}, {one, 2}, {fast, 0}, {far, 7}, {least(), 0}} {
		if n, e := Lost(x.d); n != x.want || e != api.OK {
			t.Errorf("%d: Lost = %d, %d", i, n, e)
		}
	}
	for i, d := range small() {
		n, e := Lost(d)
		if _, want := simulate(d, 0, len(spots(d)), high); n != want || e != api.OK {
			t.Errorf("small %d: Lost = %d, %d, not %d", i, n, e, want)
		}
		for j, takes := range turns() {
			if _, lost := simulate(d, 0, len(spots(d)), takes); lost > n {
				t.Errorf("small %d, %d: %d turns are lost, Lost = %d", i, j, lost, n)
			}
		}
	}
}

// P1.13: no turn is lost in any run if both skews are at least the High of their switches.
func TestNoTurnLost(t *testing.T) {
	for i, d := range small() {
		if d.HeadSwitch.High >= d.Turn || d.CylSwitch.High >= d.Turn {
			continue
		}
		for _, more := range []int{0, 1, d.Turn} {
			d.HeadSkew = min(d.HeadSwitch.High+more, d.Turn-1)
			d.CylSkew = min(d.CylSwitch.High+more, d.Turn-1)
			if n, e := Lost(d); n != 0 || e != api.OK {
				t.Errorf("%d: Lost = %d, %d", i, n, e)
			}
			size := len(spots(d))
			for from := 0; from < size; from++ {
				s := run(t, d, from, size-from)
				if _, lost := simulate(d, from, size-from, high); lost != 0 || s.Low != s.High {
					t.Fatalf("%d: the run from %d loses %d turns and takes %v", i, from, lost, s)
				}
			}
		}
	}
}

// P1.9: Skews, with the steps that it takes and those that it does not.
func TestSkews(t *testing.T) {
	long, one, single := example(), example(), example()
	long.HeadSwitch, long.CylSwitch = span(0, 70), span(0, 130)
	one.Heads = 1
	single.Zones = []api.Zone{zone(1, 6)}
	for i, x := range []struct {
		d                      api.Disk
		step, head, cyl, ticks int
		e                      api.Errno
	}{
		{example(), 10, 20, 30, 480, api.OK},
		{example(), 7, 14, 35, 472, api.OK},
		{example(), 1, 12, 30, 456, api.OK},
		{example(), 60, 0, 0, 660, api.OK},
		{long, 1, 10, 10, 830, api.OK},
		{one, 10, 0, 30, 240, api.OK},
		{single, 5, 15, 0, 135, api.OK},
		{least(), 1, 0, 0, 1, api.OK},
		{example(), 61, 0, 0, 0, api.ErrArg},
		{example(), 0, 0, 0, 0, api.ErrArg},
		{example(), -10, 0, 0, 0, api.ErrArg},
		{example(), math.MaxInt, 0, 0, 0, api.ErrArg},
		{example(), math.MinInt, 0, 0, 0, api.ErrArg},
	} {
		if h, c, n, e := Skews(x.d, x.step); h != x.head || c != x.cyl || n != x.ticks || e != x.e {
			t.Errorf("%d: Skews = %d, %d, %d, %d", i, h, c, n, e)
		}
	}
}

// P1.9, P1.14: of all pairs of multiples of step, tried one by one in their order, Skews names the first one with the fewest ticks, whatever the skews of the disk are.
func TestBestSkews(t *testing.T) {
	for i, d := range small() {
		size := len(spots(d))
		for _, step := range []int{1, 2, 5, d.Turn - 1, d.Turn} {
			if step < 1 || step > d.Turn {
				continue
			}
			head, cyl, ticks := 0, 0, math.MaxInt
			for h := 0; h < d.Turn; h += step {
				for c := 0; c < d.Turn; c += step {
					tried := d
					tried.HeadSkew, tried.CylSkew = h, c
					if s := run(t, tried, 0, size); s.High < ticks {
						head, cyl, ticks = h, c, s.High
					}
				}
			}
			if h, c, n, e := Skews(d, step); h != head || c != cyl || n != ticks || e != api.OK {
				t.Errorf("%d: Skews by %d = %d, %d, %d, %d, not %d, %d, %d", i, step, h, c, n, e, head, cyl, ticks)
			}
		}
	}
}
