package layout

import (
	"fmt"
	"math"
	"math/rand/v2"
	"slices"
	"testing"

	"platter/api"
)

// P3.1: Check, with the bounds of what is valid.
func TestCheck(t *testing.T) {
	for i, f := range append(many(), largest()) {
		if e := Check(f); e != api.OK {
			t.Errorf("%d: Check of %v = %d", i, f, e)
		}
	}
	for i, change := range []func(f *api.Format){
		func(f *api.Format) { f.Spares = 0 },
		func(f *api.Format) { f.Spares = api.MaxSpares },
		func(f *api.Format) { f.Primary = nil },
		func(f *api.Format) { f.Primary = []int{} },
		func(f *api.Format) { f.Primary = []int{0, 1, 32, 33} },
		func(f *api.Format) { f.Grown = nil },
		func(f *api.Format) { f.Grown = []api.Defect{message(0, 0, 0), message(99, 9999, 33)} },
		func(f *api.Format) { f.Grown = append(f.Grown, f.Grown...) },
		func(f *api.Format) { f.Grown = slices.Repeat(f.Grown[:1], api.MaxGrown) },
		func(f *api.Format) { f.Grown[0], f.Grown[1] = message(1, 5, 3), message(2, 5, 3) },
	} {
		f := example()
		change(&f)
		if e := Check(f); e != api.OK {
			t.Errorf("bound %d: Check = %d", i, e)
		}
	}
	for i, f := range broken() {
		if e := Check(f); e != api.ErrFormat {
			t.Errorf("broken %d: Check = %d", i, e)
		}
	}
	for i, f := range clashing() {
		if e := Check(f); e != api.ErrGrown {
			t.Errorf("clashing %d: Check = %d", i, e)
		}
	}
}

// holdError fails unless each function returns an error for a format, and zero values.
func holdError(t *testing.T, f api.Format, want api.Errno) {
	t.Helper()
	number := func(name string, n int, e api.Errno) {
		t.Helper()
		if n != 0 || e != want {
			t.Errorf("%s of %v = %d, %d, not %d", name, f, n, e, want)
		}
	}
	rest := func(name string, result any, zero any, e api.Errno) {
		t.Helper()
		if fmt.Sprint(result) != fmt.Sprint(zero) || e != want {
			t.Errorf("%s of %v = %v, %d, not %d", name, f, result, e, want)
		}
	}
	number("Check", 0, Check(f))
	n, e := Blocks(f)
	number("Blocks", n, e)
	n, e = Bears(f)
	number("Bears", n, e)
	for _, i := range []int{-1, 0, 1 << 20} {
		n, e = Where(f, i)
		number("Where", n, e)
		n, e = Holder(f, i)
		number("Holder", n, e)
	}
	for i, lists := range []func(api.Format) ([]int, api.Errno){Given, Free, Lost} {
		l, e := lists(f)
		rest("list "+fmt.Sprint(i), l, []int{}, e)
	}
	again, e := Again(f)
	rest("Again", again, api.Format{}, e)
	for _, more := range [][]api.Defect{nil, {message(7, 7, 7)}, {message(-1, 0, 0)}, {message(1, 5, 4), message(1, 5, 5)}} {
		merged, e := Merge(f, more)
		rest("Merge", merged, api.Format{}, e)
	}
}

// P1, R1 and R2: the error of the disk comes first, then that of the format, then that of its messages, then all others.
func TestOrderOfErrors(t *testing.T) {
	noDisk := func(f api.Format) api.Format {
		f.Disk.Turn = 61
		return f
	}
	holdError(t, api.Format{}, api.ErrDisk)
	holdError(t, noDisk(example()), api.ErrDisk)
	for _, f := range broken() {
		holdError(t, f, api.ErrFormat)
		holdError(t, noDisk(f), api.ErrDisk)
		if len(f.Grown) < api.MaxGrown {
			f.Grown = append(f.Grown, message(9, 9, 9), message(9, 9, 8))
			holdError(t, f, api.ErrFormat)
		}
	}
	for _, f := range clashing() {
		holdError(t, f, api.ErrGrown)
		holdError(t, noDisk(f), api.ErrDisk)
		f.Primary = []int{3, 2}
		holdError(t, f, api.ErrFormat)
	}
}

// P1: no argument, however far from any format, lets a function panic.
func TestExtremes(t *testing.T) {
	ends := []int{math.MinInt, math.MinInt + 1, -1, 0, 1, math.MaxInt - 1, math.MaxInt}
	for _, a := range ends {
		for _, b := range ends {
			wild, odd := example(), example()
			wild.Disk.Heads, wild.Disk.Zones[1].Cylinders, wild.Spares = a, b, b
			odd.Spares, odd.Primary, odd.Grown = 2, []int{a, b}, []api.Defect{message(a, b, a), message(b, a, b)}
			for _, f := range []api.Format{wild, odd, example(), largest(), {}} {
				Check(f)
				Merge(f, odd.Grown)
				Blocks(f)
				Where(f, a)
				Holder(f, b)
				Given(f)
				Free(f)
				Lost(f)
				Bears(f)
				Again(f)
			}
		}
	}
}

// The examples of the chapter, P3.3 to P3.8.
func TestExamples(t *testing.T) {
	f := example()
	if n, e := Blocks(f); n != 28 || e != api.OK {
		t.Errorf("Blocks = %d, %d", n, e)
	}
	for i, x := range []struct {
		call  func(api.Format, int) (int, api.Errno)
		n     int
		want  int
		error api.Errno
	}{
		{Where, 0, 0, api.OK}, {Where, 3, 0, api.ErrNone}, {Where, 19, 21, api.OK}, {Where, 26, 32, api.OK}, {Where, 27, 31, api.OK},
		{Where, -1, 0, api.ErrArg}, {Where, 28, 0, api.ErrArg}, {Where, math.MaxInt, 0, api.ErrArg}, {Where, math.MinInt, 0, api.ErrArg},
		{Holder, 32, 26, api.OK}, {Holder, 4, 0, api.ErrNone}, {Holder, 22, 0, api.ErrNone}, {Holder, 0, 0, api.OK}, {Holder, 31, 27, api.OK},
		{Holder, 3, 0, api.ErrNone}, {Holder, 33, 0, api.ErrNone}, {Holder, -1, 0, api.ErrArg}, {Holder, 34, 0, api.ErrArg},
		{Holder, math.MaxInt, 0, api.ErrArg}, {Holder, math.MinInt, 0, api.ErrArg},
	} {
		if n, e := x.call(f, x.n); n != x.want || e != x.error {
			t.Errorf("%d: %d, %d", i, n, e)
		}
	}
	for i, x := range []struct {
		call func(api.Format) ([]int, api.Errno)
		want []int
	}{{Given, []int{3, 4, 20, 22, 23, 30, 33}}, {Free, []int{0, 0}}, {Lost, []int{3}}} {
		if l, e := x.call(f); !slices.Equal(l, x.want) || e != api.OK {
			t.Errorf("list %d: %v, %d", i, l, e)
		}
	}
	if n, e := Bears(f); n != 0 || e != api.OK {
		t.Errorf("Bears = %d, %d", n, e)
	}
	fewer := example()
	fewer.Grown = []api.Defect{f.Grown[0], f.Grown[2], f.Grown[4]}
	if n, e := Bears(fewer); n != 1 || e != api.OK {
		t.Errorf("Bears of fewer = %d, %d", n, e)
	}
	again, e := Again(f)
	if n, e := Blocks(again); n != 23 || e != api.OK {
		t.Errorf("Blocks of Again = %d, %d", n, e)
	}
	want := f
	want.Primary, want.Grown = []int{3, 4, 20, 22, 23, 30, 33}, []api.Defect{}
	if fmt.Sprint(again) != fmt.Sprint(want) || e != api.OK {
		t.Errorf("Again = %v, %d", again, e)
	}
}

// P3.2: Merge, with the errors in their order.
func TestMerge(t *testing.T) {
	full := example()
	full.Grown = nil
	for i := range api.MaxGrown {
		full.Grown = append(full.Grown, message(60-i, i, i))
	}
	half := full
	half.Grown = full.Grown[:15]
	reversed := slices.Clone(full.Grown)
	slices.Reverse(reversed)
	one, two := message(0, 7, 33), message(99, 0, 0)
	for i, x := range []struct {
		f    api.Format
		more []api.Defect
		want []api.Defect
		e    api.Errno
	}{
		{example(), nil, example().Grown, api.OK},
		{example(), []api.Defect{two, one}, append(append([]api.Defect{one}, example().Grown...), two), api.OK},
		{example(), []api.Defect{message(5, 6, 30), one, one, message(2, 9, 22)}, append([]api.Defect{one}, example().Grown...), api.OK},
		{flat(1, 4), []api.Defect{message(9, 1, 3), message(4, 1, 3)}, []api.Defect{message(4, 1, 3), message(9, 1, 3)}, api.OK},
		{flat(1, 4), nil, nil, api.OK},
		{full, full.Grown, reversed, api.OK},
		{half, full.Grown[10:], reversed, api.OK},
		{full, []api.Defect{one}, nil, api.ErrMany},
		{full, []api.Defect{message(60, 0, 1)}, nil, api.ErrMany},
		{half, slices.Repeat([]api.Defect{one}, api.MaxGrown), append([]api.Defect{one}, reversed[15:]...), api.OK},
		{half, append(slices.Clone(full.Grown[15:]), one), nil, api.ErrMany},
		{half, []api.Defect{message(60, 0, 1)}, nil, api.ErrGrown},
		{half, []api.Defect{message(60, 1, 0)}, nil, api.ErrGrown},
		{full, []api.Defect{one, message(0, 7, 32)}, nil, api.ErrGrown},
		{half, slices.Repeat([]api.Defect{one}, api.MaxGrown+1), nil, api.ErrFormat},
		{full, []api.Defect{one, message(0, 7, 34)}, nil, api.ErrFormat},
		{example(), []api.Defect{message(100, 7, 33)}, nil, api.ErrFormat},
		{example(), []api.Defect{message(-1, 7, 33)}, nil, api.ErrFormat},
		{example(), []api.Defect{message(9, 10000, 33)}, nil, api.ErrFormat},
		{example(), []api.Defect{message(9, -1, 33)}, nil, api.ErrFormat},
		{example(), []api.Defect{message(9, 7, -1)}, nil, api.ErrFormat},
	} {
		want := x.f
		want.Grown = x.want
		if x.e != api.OK {
			want = api.Format{}
		}
		if f, e := Merge(x.f, x.more); fmt.Sprint(f) != fmt.Sprint(want) || e != x.e {
			t.Errorf("%d: Merge = %v, %d, not %v, %d", i, f, e, want, x.e)
		}
	}
}

// R4: no argument is changed, and results share no memory with it.
func TestArgumentsKept(t *testing.T) {
	f, more := example(), []api.Defect{message(9, 9, 9), message(0, 0, 1)}
	// With room behind their ends, so that an append would be seen.
	f.Primary = append(make([]int, 0, 90), f.Primary...)
	f.Grown = append(make([]api.Defect, 0, 90), f.Grown...)
	whole := answers(t, f)
	merged, _ := Merge(f, more)
	same, _ := Merge(f, nil)
	again, _ := Again(f)
	bare, _ := Again(flat(2, 4))
	for _, x := range []*api.Format{&merged, &same, &again, &bare} {
		x.Disk.Zones[0].Cylinders = 20
		for i := range x.Primary {
			x.Primary[i] = -9
		}
		for i := range x.Grown {
			x.Grown[i].Sector = -9
		}
	}
	for _, call := range []func(api.Format) ([]int, api.Errno){Given, Free, Lost} {
		l, _ := call(f)
		for i := range l {
			l[i] = -9
		}
	}
	if fmt.Sprint(f) != fmt.Sprint(example()) || fmt.Sprint(more) != fmt.Sprint([]api.Defect{message(9, 9, 9), message(0, 0, 1)}) {
		t.Errorf("the arguments are now %v and %v", f, more)
	}
	for i, n := range f.Primary[:90][2:] {
		if n != 0 {
			t.Errorf("%d is written behind the primary sectors, at %d", n, i)
		}
	}
	for i, m := range f.Grown[:90][5:] {
		if m != (api.Defect{}) {
			t.Errorf("%v is written behind the messages, at %d", m, i)
		}
	}
	if now := answers(t, f); now != whole {
		t.Errorf("the answers were %s, and are %s", whole, now)
	}
}

// P3.3 to P3.7: how messages move blocks, in small formats.
func TestGrowing(t *testing.T) {
	zones := flat(2, 4, 3, 3) // blocks 0 1 | 4 | 7, spares 2 3 | 5 6 | 8 9
	slipped := flat(2, 5, 5)  // blocks 0 2 | 5 7, spares 3 4 | 8 9
	slipped.Primary = []int{1, 6}
	all := flat(20, 3, 2)
	none := flat(0, 3, 2)
	for i, x := range []struct {
		f           api.Format
		grown       []api.Defect
		where       []int
		given, free []int
		bears       int
		e           api.Errno
	}{
		{zones, nil, []int{0, 1, 4, 7}, nil, []int{2, 2, 2}, 6, api.OK},
		{slipped, nil, []int{0, 2, 5, 7}, []int{1, 6}, []int{2, 2}, 4, api.OK},
		{all, nil, nil, nil, []int{3, 2}, 0, api.ErrNone},
		{all, []api.Defect{message(1, 1, 1)}, nil, []int{1}, []int{2, 2}, 0, api.ErrNone},
		{none, nil, []int{0, 1, 2, 3, 4}, nil, []int{0, 0}, 0, api.OK},
		{none, []api.Defect{message(1, 1, 2)}, []int{0, 1, -1, 3, 4}, []int{2}, []int{0, 0}, 0, api.OK},
		// the lowest spare of the own zone, then those of the zones behind it
		{zones, []api.Defect{message(1, 1, 0)}, []int{2, 1, 4, 7}, []int{0}, []int{1, 2, 2}, 5, api.OK},
		{zones, []api.Defect{message(1, 1, 4), message(2, 2, 5), message(3, 3, 6)}, []int{0, 1, 8, 7}, []int{4, 5, 6}, []int{2, 0, 1}, 3, api.OK},
		// after the last zone on with the first one, and from there on in that zone
		{zones, []api.Defect{message(1, 1, 8), message(2, 2, 9), message(3, 3, 7)}, []int{0, 1, 4, 2}, []int{7, 8, 9}, []int{1, 2, 0}, 3, api.OK},
		{zones, []api.Defect{message(1, 1, 8), message(2, 2, 9), message(3, 3, 7), message(4, 4, 2)}, []int{0, 1, 4, 3}, []int{2, 7, 8, 9}, []int{0, 2, 0}, 2, api.OK},
		{zones, []api.Defect{message(1, 1, 8), message(2, 2, 9), message(3, 3, 2), message(4, 4, 3), message(5, 5, 7)}, []int{0, 1, 4, 5}, []int{2, 3, 7, 8, 9}, []int{0, 1, 0}, 1, api.OK},
		// a moved block seeks from the zone of its sector of then, not from its first one
		{zones, []api.Defect{message(1, 1, 2), message(2, 2, 3), message(3, 3, 0), message(4, 4, 6), message(5, 5, 5)}, []int{8, 1, 4, 7}, []int{0, 2, 3, 5, 6}, []int{0, 0, 1}, 1, api.OK},
		// by Stamp, then by Id
		{zones, []api.Defect{message(2, 5, 0), message(1, 5, 1)}, []int{3, 2, 4, 7}, []int{0, 1}, []int{0, 2, 2}, 4, api.OK},
		{zones, []api.Defect{message(1, 6, 0), message(2, 5, 1)}, []int{3, 2, 4, 7}, []int{0, 1}, []int{0, 2, 2}, 4, api.OK},
		{zones, []api.Defect{message(9, 4, 2), message(1, 5, 0)}, []int{3, 1, 4, 7}, []int{0, 2}, []int{0, 2, 2}, 4, api.OK},
		{zones, []api.Defect{message(9, 5, 2), message(1, 4, 0)}, []int{3, 1, 4, 7}, []int{0, 2}, []int{0, 2, 2}, 4, api.OK},
		// what was given up before is not given up again
		{slipped, []api.Defect{message(1, 1, 1), message(2, 2, 0), message(3, 3, 0), message(4, 4, 6)}, []int{3, 2, 5, 7}, []int{0, 1, 6}, []int{1, 2}, 3, api.OK},
		// a lost block stays lost, and is the only one
		{flat(1, 2, 1), []api.Defect{message(1, 1, 0), message(2, 2, 1), message(3, 3, 2), message(4, 4, 0)}, []int{-1}, []int{0, 1, 2}, []int{0, 0}, 0, api.OK},
		{flat(1, 3), []api.Defect{message(1, 1, 0), message(2, 2, 1)}, []int{2, -1}, []int{0, 1}, []int{0}, 0, api.OK},
		{flat(1, 3), []api.Defect{message(1, 1, 2)}, []int{0, 1}, []int{2}, []int{0}, 0, api.OK},
	} {
		x.f.Grown = x.grown
		given, _ := Given(x.f)
		free, _ := Free(x.f)
		bears, e := Bears(x.f)
		if where := allPlaces(t, x.f); !slices.Equal(where, x.where) || !slices.Equal(given, x.given) || !slices.Equal(free, x.free) || bears != x.bears || e != x.e {
			t.Errorf("%d: %v, given %v, free %v, bears %d, %d", i, where, given, free, bears, e)
		}
	}
}

// P3.3 to P3.6: many formats are as the chapter says when it is followed word by word.
func TestWordByWord(t *testing.T) {
	lost, moved := 0, 0
	for i, f := range append(many(), largest()) {
		truth, slipped := truthOf(f), truthOf(api.Format{Disk: f.Disk, Spares: f.Spares, Primary: f.Primary})
		for b, s := range allPlaces(t, f) {
			want, found := truth.where[b]
			if found != (s >= 0) || found && s != want {
				t.Fatalf("%d: Where of %d of %v = %d, not %d", i, b, f, s, want)
			}
			if found && truth.zones[s] != truth.zones[slipped.where[b]] {
				moved++
			}
		}
		if n, e := Blocks(f); n != truth.blocks || e != api.OK {
			t.Fatalf("%d: Blocks of %v = %d, %d", i, f, n, e)
		}
		if l, e := Given(f); !slices.Equal(l, truth.given(sizeOf(f))) || e != api.OK {
			t.Fatalf("%d: Given of %v = %v, %d", i, f, l, e)
		}
		if l, e := Lost(f); !slices.Equal(l, truth.lost()) || e != api.OK {
			t.Fatalf("%d: Lost of %v = %v, %d", i, f, l, e)
		}
		free, e := Free(f)
		if len(free) != len(f.Disk.Zones) || e != api.OK {
			t.Fatalf("%d: Free of %v = %v, %d", i, f, free, e)
		}
		for z, n := range free {
			if n != len(truth.free(z)) {
				t.Fatalf("%d: Free of %v = %v", i, f, free)
			}
		}
		lost += len(truth.lost())
	}
	if lost == 0 || moved == 0 {
		t.Errorf("%d blocks were lost, %d left their zone", lost, moved)
	}
}

// P3.9: Where and Holder are each other's reverse, and no block has a sector of Given.
func TestOnePlace(t *testing.T) {
	for i, f := range many() {
		given, _ := Given(f)
		lost, _ := Lost(f)
		held := map[int]bool{}
		for b, s := range allPlaces(t, f) {
			if slices.Contains(lost, b) != (s < 0) || held[s] && s >= 0 || slices.Contains(given, s) {
				t.Fatalf("%d: the block %d of %v has %d", i, b, f, s)
			}
			held[s] = true
			if n, e := Holder(f, s); s >= 0 && (n != b || e != api.OK) {
				t.Fatalf("%d: Holder of %d of %v = %d, %d, not %d", i, s, f, n, e, b)
			}
		}
		for s := range sizeOf(f) {
			b, e := Holder(f, s)
			if held[s] != (e == api.OK) || e != api.OK && (e != api.ErrNone || b != 0) {
				t.Fatalf("%d: Holder of %d of %v = %d, %d", i, s, f, b, e)
			}
			if n, e := Where(f, b); held[s] && (n != s || e != api.OK) {
				t.Fatalf("%d: Where of %d of %v = %d, %d, not %d", i, b, f, n, e, s)
			}
		}
	}
}

// P3.10: each sector is either in Given, or free, or some block has it.
func TestEverySectorNamed(t *testing.T) {
	for i, f := range many() {
		given, _ := Given(f)
		free, _ := Free(f)
		unnamed := make([]int, len(f.Disk.Zones))
		for s := range sizeOf(f) {
			_, e := Holder(f, s)
			if e == api.OK && slices.Contains(given, s) {
				t.Fatalf("%d: some block of %v has %d, which is given", i, f, s)
			}
			if e != api.OK && !slices.Contains(given, s) {
				unnamed[zonesOf(f.Disk)[s]]++
			}
		}
		if !slices.Equal(unnamed, free) || !slices.IsSorted(given) || len(slices.Compact(slices.Clone(given))) != len(given) {
			t.Fatalf("%d: Given of %v = %v, Free = %v; no block has %v others", i, f, given, free, unnamed)
		}
		for _, m := range f.Grown {
			if !slices.Contains(given, m.Sector) {
				t.Fatalf("%d: Given of %v = %v, without %v", i, f, given, m)
			}
		}
	}
}

// P3.11: no result depends on the order of the messages, nor on how often each of them comes.
func TestInAnyOrder(t *testing.T) {
	r := rand.New(rand.NewPCG(11, 3))
	for i, f := range many() {
		want := answers(t, f)
		for range 4 {
			x := f
			x.Grown = slices.Clone(f.Grown)
			for len(x.Grown) > 0 && len(x.Grown) < api.MaxGrown && r.IntN(3) > 0 {
				x.Grown = append(x.Grown, x.Grown[r.IntN(len(x.Grown))])
			}
			r.Shuffle(len(x.Grown), func(i, j int) { x.Grown[i], x.Grown[j] = x.Grown[j], x.Grown[i] })
			if now := answers(t, x); now != want {
				t.Fatalf("%d: for %v the answers are %s, for %v %s", i, f, want, x.Grown, now)
			}
		}
	}
}

// P3.2, P3.11: Merge is the same for a format with some messages and the others as more, whichever these are, and changes no other result.
func TestMergeInAnyOrder(t *testing.T) {
	r := rand.New(rand.NewPCG(3, 11))
	for i, f := range many() {
		whole, e := Merge(f, nil)
		if e != api.OK || !slices.IsSortedFunc(whole.Grown, func(a, b api.Defect) int { return a.Id - b.Id }) {
			t.Fatalf("%d: Merge of %v = %v, %d", i, f, whole, e)
		}
		if now, want := answers(t, whole), answers(t, f); now != want {
			t.Fatalf("%d: the answers for %v are %s, for what Merge made of it %s", i, f, want, now)
		}
		for _, m := range f.Grown {
			if n := slices.Index(whole.Grown, m); n < 0 || slices.Contains(whole.Grown[n+1:], m) {
				t.Fatalf("%d: Merge of %v has %v", i, f, whole.Grown)
			}
		}
		for range 4 {
			some := f
			some.Grown = nil
			var others []api.Defect
			for _, m := range f.Grown {
				both := r.IntN(3)
				if both != 0 {
					some.Grown = append(some.Grown, m)
				}
				if both != 1 {
					others = append(others, m)
				}
			}
			if x, e := Merge(some, others); fmt.Sprint(x) != fmt.Sprint(whole) || e != api.OK {
				t.Fatalf("%d: Merge of %v and %v = %v, %d, not %v", i, some, others, x, e, whole)
			}
		}
	}
}

// P3.12: one more message moves at most the block that has its sector.
func TestOneMoreMessage(t *testing.T) {
	tried := 0
	for i, f := range many() {
		before := allPlaces(t, f)
		for s := range sizeOf(f) {
			g, fits := grown(f, s)
			if !fits {
				continue
			}
			tried++
			for b, now := range allPlaces(t, g) {
				if (before[b] == s) != (now != before[b]) {
					t.Fatalf("%d: after one more message for %d the block %d of %v has %d, not %d", i, s, b, f, now, before[b])
				}
			}
		}
	}
	if tried == 0 {
		t.Error("no message was one more")
	}
}

// loses tells whether some block is lost after so many further messages for any sectors, tried one by one.
func loses(f api.Format, count int) bool {
	if lost, _ := Lost(f); len(lost) > 0 {
		return true
	}
	for s := range sizeOf(f) {
		if g, _ := grown(f, s); count > 0 && loses(g, count-1) {
			return true
		}
	}
	return false
}

// P3.7: Bears is the greatest number of further messages that lose no block, of all that there are.
func TestWhicheverMessages(t *testing.T) {
	tried := map[int]int{}
	for i, f := range many() {
		bears, e := Bears(f)
		blocks, _ := Blocks(f)
		if (e == api.ErrNone) != (blocks == 0) || e != api.OK && (e != api.ErrNone || bears != 0) {
			t.Fatalf("%d: Bears of %v = %d, %d", i, f, bears, e)
		}
		lost, _ := Lost(f)
		if e != api.OK || bears > 3 || sizeOf(f) > 12 || len(f.Grown)+bears >= api.MaxGrown {
			continue
		}
		tried[bears]++
		if loses(f, bears) != (len(lost) > 0) || !loses(f, bears+1) {
			t.Fatalf("%d: Bears of %v = %d", i, f, bears)
		}
	}
	for k := range 4 {
		if tried[k] == 0 {
			t.Errorf("no format bears %d messages", k)
		}
	}
}

// P3.13: with as many messages as Bears says no block is lost, with one more, all of which hit one block, this block is.
func TestWhatItBears(t *testing.T) {
	r := rand.New(rand.NewPCG(13, 3))
	tried := 0
	for i, f := range many() {
		bears, e := Bears(f)
		lost, _ := Lost(f)
		if e != api.OK || len(lost) > 0 || len(f.Grown)+bears >= api.MaxGrown {
			continue
		}
		tried++
		hit := f
		for range bears {
			hit, _ = grown(hit, r.IntN(sizeOf(f)))
			if l, e := Lost(hit); len(l) > 0 || e != api.OK {
				t.Fatalf("%d: Bears of %v = %d, but %v are lost in %v", i, f, bears, l, hit)
			}
		}
		blocks, _ := Blocks(f)
		block := r.IntN(blocks)
		chased := f
		for k := range bears + 1 {
			s, e := Where(chased, block)
			if e != api.OK {
				t.Fatalf("%d: Bears of %v = %d, but the block %d is lost after %d messages", i, f, bears, block, k)
			}
			chased, _ = grown(chased, s)
		}
		if l, _ := Lost(chased); !slices.Equal(l, []int{block}) {
			t.Fatalf("%d: Bears of %v = %d, but %v are lost in %v", i, f, bears, l, chased)
		}
	}
	if tried < 50 {
		t.Errorf("only %d formats were tried", tried)
	}
}

// P3.14: without grown defects the blocks are in the order of their sectors.
func TestSlipped(t *testing.T) {
	for i, f := range many() {
		f.Grown = nil
		where := allPlaces(t, f)
		if !slices.IsSorted(where) || len(where) > 0 && where[0] < 0 {
			t.Fatalf("%d: the blocks of %v have %v", i, f, where)
		}
		given, _ := Given(f)
		if !slices.Equal(given, f.Primary) {
			t.Fatalf("%d: Given of %v = %v", i, f, given)
		}
	}
}

// P3.8, P3.14: Again slips all sectors of Given, which leaves no more blocks than before, none of them lost.
func TestAgain(t *testing.T) {
	for i, f := range many() {
		given, _ := Given(f)
		again, e := Again(f)
		if len(given) > api.MaxPrimary {
			if e != api.ErrMany || fmt.Sprint(again) != fmt.Sprint(api.Format{}) {
				t.Fatalf("%d: Again of %v = %v, %d", i, f, again, e)
			}
			continue
		}
		want := f
		want.Primary, want.Grown = given, nil
		if e != api.OK || fmt.Sprint(again) != fmt.Sprint(want) || Check(again) != api.OK {
			t.Fatalf("%d: Again of %v = %v, %d", i, f, again, e)
		}
		before, _ := Blocks(f)
		after, _ := Blocks(again)
		lost, e := Lost(again)
		if after > before || len(lost) > 0 || e != api.OK {
			t.Fatalf("%d: of %v with %d blocks Again makes %d, and %v are lost", i, f, before, after, lost)
		}
	}
}

// P3.8: Again takes as many sectors as there can be primary ones, and not one more.
func TestAgainMany(t *testing.T) {
	f := largest()
	f.Grown = nil
	if again, e := Again(f); !slices.Equal(again.Primary, f.Primary) || e != api.OK {
		t.Errorf("Again = %v, %d", again, e)
	}
	f.Grown = []api.Defect{message(1, 1, f.Primary[7])}
	if again, e := Again(f); !slices.Equal(again.Primary, f.Primary) || len(again.Grown) > 0 || e != api.OK {
		t.Errorf("Again with a primary sector grown = %v, %d", again, e)
	}
	f.Grown[0].Sector++
	if again, e := Again(f); fmt.Sprint(again) != fmt.Sprint(api.Format{}) || e != api.ErrMany {
		t.Errorf("Again with one more = %v, %d", again, e)
	}
	f.Primary = f.Primary[1:]
	if again, e := Again(f); len(again.Primary) != api.MaxPrimary || e != api.OK {
		t.Errorf("Again with one instead = %v, %d", again, e)
	}
}
