package zones

import "platter/api"

// The kinds of switches between neighbouring tracks, as indices of an array.
const (
	headSwitch = iota
	cylSwitch
)

// kind is a kind of switch: the span of the ticks it takes, and its skew.
type kind struct {
	api.Span
	skew int
}

// disk is a disk that has been checked.
type disk struct {
	api.Disk
	kinds [2]kind
}

// track is a track with the number of its first sector, the ticks of each of its sectors, its offset, and the kind of the switch to the track behind it.
type track struct {
	cylinder, head int
	first, sectors int
	ticks, offset  int
	behind         int
}

func checked(d api.Disk) (disk, api.Errno) {
	if !valid(d) {
		return disk{}, api.ErrDisk
	}
	return disk{Disk: d, kinds: [2]kind{
		headSwitch: {d.HeadSwitch, d.HeadSkew},
		cylSwitch:  {d.CylSwitch, d.CylSkew},
	}}, api.OK
}

func valid(d api.Disk) bool {
	if !within(d.Heads, 1, api.MaxHeads) || !within(d.Turn, 1, api.MaxTicks) || !within(len(d.Zones), 1, api.MaxZones) {
		return false
	}
	for _, z := range d.Zones {
		if !within(z.Cylinders, 1, api.MaxCylinders) || !within(z.Sectors, 1, api.MaxSectors) || d.Turn%z.Sectors != 0 {
			return false
		}
	}
	sound := func(skew int, s api.Span) bool {
		return within(skew, 0, d.Turn-1) && within(s.Low, 0, s.High) && s.High <= api.MaxSwitch
	}
	return sound(d.HeadSkew, d.HeadSwitch) && sound(d.CylSkew, d.CylSwitch)
}

func within(n, low, high int) bool { return low <= n && n <= high }

func modulo(a, n int) int { return (a%n + n) % n }

// tracks yields all tracks in their order.
func (d disk) tracks(yield func(track) bool) {
	var t track
	for _, z := range d.Zones {
		t.sectors, t.ticks = z.Sectors, d.Turn/z.Sectors
		for range z.Cylinders {
			for h := range d.Heads {
				t.head, t.behind = h, headSwitch
				if h == d.Heads-1 {
					t.behind = cylSwitch
				}
				if !yield(t) {
					return
				}
				t.first += t.sectors
				t.offset = (t.offset + d.kinds[t.behind].skew) % d.Turn
			}
			t.cylinder++
		}
	}
}

func (t track) end() int { return t.first + t.sectors }

// begins returns the angle at which the sector of the track with a number begins.
func (d disk) begins(t track, n int) int {
	return (t.offset + (n-t.first)*t.ticks) % d.Turn
}

func (d disk) size() int {
	size := 0
	for t := range d.tracks {
		size = t.end()
	}
	return size
}

// trackOf returns the track of the sector with a number, and whether there is one.
func (d disk) trackOf(n int) (track, bool) {
	for t := range d.tracks {
		if within(n, t.first, t.end()-1) {
			return t, true
		}
	}
	return track{}, false
}

// gap returns how many ticks after the end of a track the next one begins if the switch takes so many ticks. A track ends at its offset, so only the skew of the switch matters.
func (d disk) gap(k kind, ticks int) int {
	return ticks + modulo(k.skew-ticks, d.Turn)
}

// run returns the ticks of a run of sectors of the disk. A gap never becomes shorter by a longer switch, so the ends of the span are those of the shortest and of the longest switches.
func (d disk) run(from, count int) api.Span {
	var s api.Span
	to := from + count
	for t := range d.tracks {
		read := (min(to, t.end()) - max(from, t.first)) * t.ticks
		if read <= 0 {
			continue
		}
		s.Low += read
		s.High += read
		if t.end() < to {
			k := d.kinds[t.behind]
			s.Low += d.gap(k, k.Low)
			s.High += d.gap(k, k.High)
		}
	}
	return s
}

// switches returns how many switches of each kind a run of all sectors has.
func (d disk) switches() [2]int {
	var counts [2]int
	size := d.size()
	for t := range d.tracks {
		if t.end() < size {
			counts[t.behind]++
		}
	}
	return counts
}

// best returns the lowest multiple of step that, as the skew of so many switches of a kind, makes them take the fewest ticks in the worst case.
func (d disk) best(k kind, count, step int) int {
	best := 0
	least := count * d.gap(kind{k.Span, 0}, k.High)
	for skew := step; skew < d.Turn; skew += step {
		if ticks := count * d.gap(kind{k.Span, skew}, k.High); ticks < least {
			best, least = skew, ticks
		}
	}
	return best
}
