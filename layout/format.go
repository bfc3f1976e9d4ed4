package layout

import (
	"cmp"
	"slices"

	"platter/api"
	"platter/zones"
)

// valid tells whether a format is valid, of which the disk is.
func valid(f api.Format) bool {
	size, _ := zones.Size(f.Disk)
	if !within(f.Spares, 0, api.MaxSpares) || len(f.Primary) > api.MaxPrimary || len(f.Grown) > api.MaxGrown {
		return false
	}
	outside := func(sector int) bool { return !within(sector, 0, size-1) }
	wrong := func(m api.Defect) bool {
		return !within(m.Id, 0, api.MaxDefect) || !within(m.Stamp, 0, api.MaxStamp) || outside(m.Sector)
	}
	return strictlyAscending(f.Primary) && !slices.ContainsFunc(f.Primary, outside) && !slices.ContainsFunc(f.Grown, wrong)
}

func strictlyAscending[N cmp.Ordered](numbers []N) bool {
	for i := 1; i < len(numbers); i++ {
		if numbers[i] <= numbers[i-1] {
			return false
		}
	}
	return true
}

func within(n, low, high int) bool { return low <= n && n <= high }

// clash tells whether two messages with the same Id are not equal.
func clash(messages ...api.Defect) bool {
	byId := map[int]api.Defect{}
	for _, m := range messages {
		if other, found := byId[m.Id]; found && other != m {
			return true
		}
		byId[m.Id] = m
	}
	return false
}

// different returns each message once, ordered by Id.
func different(messages ...api.Defect) []api.Defect {
	var once []api.Defect
	found := map[api.Defect]bool{}
	for _, m := range messages {
		if !found[m] {
			found[m] = true
			once = append(once, m)
		}
	}
	slices.SortFunc(once, func(a, b api.Defect) int { return cmp.Compare(a.Id, b.Id) })
	return once
}

// inOrder returns messages in the order in which they are looked at.
func inOrder(messages ...api.Defect) []api.Defect {
	ordered := slices.Clone(messages)
	slices.SortFunc(ordered, func(a, b api.Defect) int {
		return cmp.Or(cmp.Compare(a.Stamp, b.Stamp), cmp.Compare(a.Id, b.Id))
	})
	return ordered
}

// rebuilt returns a copy of a format with other primary sectors and messages.
func rebuilt(f api.Format, primary []int, grown []api.Defect) api.Format {
	f.Disk.Zones = slices.Clone(f.Disk.Zones)
	f.Primary, f.Grown = primary, grown
	return f
}
