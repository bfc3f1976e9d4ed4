package arm

import (
	"math"
	"slices"
	"testing"

	"platter/api"
)

// P6.1: Check, at the ends of what it allows and beyond them.
func TestCheck(t *testing.T) {
	for i, a := range append(large(40), armA(), armB(), api.Arm{}, api.Arm{Speed: 8, Slow: 8}, api.Arm{Force: 4, Shake: 2, Gate: 4}) {
		if e := Check(a); e != api.OK {
			t.Errorf("%d: Check of %v = %d", i, a, e)
		}
	}
	for i, a := range brokenArms() {
		if e := Check(a); e != api.ErrArm {
			t.Errorf("%d: Check of %v = %d", i, a, e)
		}
	}
}

// call is a call of a function for an arm; it returns its error, and whether its other results are their zero values.
type call struct {
	name string
	of   func(a api.Arm) (zero bool, e api.Errno)
}

func staysCall(target int) call {
	return call{"Stays", func(a api.Arm) (bool, api.Errno) {
		list, e := Stays(a, target)
		return len(list) == 0, e
	}}
}

func stepsCall(target int, s api.Spot) call {
	return call{"Steps", func(a api.Arm) (bool, api.Errno) {
		n, c, e := Steps(a, target, s)
		return n == 0 && c == 0, e
	}}
}

func runCall(target int, s api.Spot, shocks ...int) call {
	return call{"Run", func(a api.Arm) (bool, api.Errno) {
		list, e := Run(a, target, s, shocks)
		return len(list) == 0, e
	}}
}

// plainCalls are calls of the functions that have the arm as their only argument.
func plainCalls() []call {
	return []call{
		{"Table", func(a api.Arm) (bool, api.Errno) { table, e := Table(a); return len(table) == 0, e }},
		{"Safe", func(a api.Arm) (bool, api.Errno) { list, e := Safe(a); return len(list) == 0, e }},
		{"Park", func(a api.Arm) (bool, api.Errno) { n, e := Park(a); return n == 0, e }},
	}
}

// badTargets are no positions of the arms of the chapter, badSpots no states of them, and badShocks no shocks.
func badTargets() []int { return []int{-1, 7, 41, math.MinInt, math.MaxInt} }

func badSpots() []api.Spot {
	return spots(-1, 0, 7, 0, 3, 3, 3, -3, -1, 3, 7, -3, math.MinInt, 0, math.MaxInt, 0, 3, math.MinInt, 3, math.MaxInt)
}

func badShocks() [][]int {
	return [][]int{{2}, {-2}, {0, 1, -1, 2}, {math.MinInt}, {math.MaxInt}, make([]int, api.MaxRun+1), slices.Repeat([]int{9}, api.MaxRun+1)}
}

func hold(t *testing.T, c call, a api.Arm, want api.Errno) {
	t.Helper()
	if zero, e := c.of(a); e != want || !zero {
		t.Errorf("%s of %v: the error is %d, not %d; zero: %v", c.name, a, e, want, zero)
	}
}

// P1, P6.1 to P6.7, R1, R2: ErrArm is the first error of each function.
func TestErrArm(t *testing.T) {
	calls := append(plainCalls(), staysCall(3), stepsCall(3, spot(2, 0)), runCall(3, spot(2, 0), 0))
	for _, n := range badTargets() {
		calls = append(calls, staysCall(n), stepsCall(n, spot(2, 0)), runCall(n, spot(2, 0), 0))
	}
	for _, s := range badSpots() {
		calls = append(calls, stepsCall(3, s), stepsCall(-1, s), runCall(3, s), runCall(-1, s, 9))
	}
	for _, l := range badShocks() {
		calls = append(calls, runCall(3, spot(2, 0), l...), runCall(3, spot(1, 0), l...))
	}
	for _, c := range calls {
		for _, a := range brokenArms() {
			hold(t, c, a, api.ErrArm)
		}
	}
}

// P1, P6.2 to P6.4, R1, R2: behind it come ErrArg for the target, then ErrSpot, then ErrArg for the shocks, then ErrNone.
func TestOrderOfErrors(t *testing.T) {
	a := armA()
	for _, n := range badTargets() {
		hold(t, staysCall(n), a, api.ErrArg)
		for _, s := range append(badSpots(), spot(2, 0), spot(1, 0)) {
			hold(t, stepsCall(n, s), a, api.ErrArg)
			hold(t, runCall(n, s), a, api.ErrArg)
			hold(t, runCall(n, s, 9), a, api.ErrArg)
		}
	}
	for _, s := range badSpots() {
		hold(t, stepsCall(3, s), a, api.ErrSpot)
		hold(t, stepsCall(0, s), a, api.ErrSpot)
		hold(t, runCall(3, s, 0), a, api.ErrSpot)
		for _, l := range badShocks() {
			hold(t, runCall(3, s, l...), a, api.ErrSpot)
			hold(t, runCall(0, s, l...), a, api.ErrSpot)
		}
	}
	for _, l := range badShocks() {
		hold(t, runCall(3, spot(2, 0), l...), a, api.ErrArg)
		hold(t, runCall(3, spot(1, 0), l...), a, api.ErrArg)
		hold(t, runCall(0, spot(0, 0), l...), a, api.ErrArg)
	}
	for _, l := range [][]int{nil, {0}, {1, -1}, make([]int, api.MaxRun)} {
		hold(t, runCall(3, spot(1, 0), l...), a, api.ErrNone)
		hold(t, runCall(0, spot(0, 0), l...), a, api.ErrNone)
	}
	hold(t, stepsCall(3, spot(1, 0)), a, api.ErrNone)
	hold(t, stepsCall(0, spot(0, 0)), a, api.ErrNone)
	hold(t, runCall(3, spot(0, 0), 1), armB(), api.ErrArg) // without Shake no shock comes
}

// P1: no argument, however far from any arm, lets a function panic.
func TestExtremes(t *testing.T) {
	ends := []int{math.MinInt, math.MinInt + 1, -1, 0, 1, 40, math.MaxInt - 1, math.MaxInt}
	for _, n := range ends {
		for _, m := range ends {
			wild := api.Arm{Last: n, Speed: m, Force: n, Shake: m, Gate: n, Slow: m}
			for _, a := range []api.Arm{wild, armA(), {}, {Last: n, Speed: 2, Force: 3}, {Last: 6, Speed: m, Slow: m}} {
				Check(a)
				Stays(a, n)
				Steps(a, n, spot(m, n))
				Steps(a, 3, spot(n, m))
				Run(a, n, spot(n, m), []int{m})
				Run(a, 0, spot(0, 0), []int{n, m})
				Table(a)
				Safe(a)
				Park(a)
			}
		}
	}
}

// R4: no argument is changed, results share no memory, and the same call has the same result.
func TestArgumentsKept(t *testing.T) {
	a, shocks := armA(), []int{1, -1, 0, 1}
	run, _ := Run(a, 3, spot(2, 0), shocks)
	stays, _ := Stays(a, 3)
	safe, _ := Safe(a)
	table, _ := Table(a)
	wantRun, wantStays, wantSafe, wantRow := slices.Clone(run), slices.Clone(stays), slices.Clone(safe), slices.Clone(table[1])
	run[0], stays[0], safe[0], table[0][0] = spot(9, 9), spot(9, 9), spot(9, 9), 99
	if row := append(table[0], 99); !slices.Equal(table[1], wantRow) {
		t.Errorf("the rows %v and %v share memory", row, table[1])
	}
	if again, _ := Run(a, 3, spot(2, 0), shocks); !slices.Equal(again, wantRun) {
		t.Errorf("Run = %v, then %v", wantRun, again)
	}
	if again, _ := Stays(a, 3); !slices.Equal(again, wantStays) {
		t.Errorf("Stays = %v, then %v", wantStays, again)
	}
	if again, _ := Safe(a); !slices.Equal(again, wantSafe) {
		t.Errorf("Safe = %v, then %v", wantSafe, again)
	}
	if again, _ := Table(a); again[0][0] != -1 || !slices.Equal(again[1], wantRow) {
		t.Errorf("Table = %v", again)
	}
	if !slices.Equal(shocks, []int{1, -1, 0, 1}) {
		t.Errorf("the shocks are now %v", shocks)
	}
}

// P6.2: Stays, with the examples, and arms for which it is plain where they stay.
func TestStays(t *testing.T) {
	around := spots(2, -2, 2, -1, 2, 0, 2, 1, 2, 2, 3, -2, 3, -1, 3, 0, 3, 1, 3, 2, 4, -2, 4, -1, 4, 0, 4, 1, 4, 2)
	free := api.Arm{Last: 3, Speed: 1, Gate: 1, Slow: 1}
	forced := free
	forced.Force = 1
	slow := forced
	slow.Slow = 0
	for i, x := range []struct {
		a      api.Arm
		target int
		want   []api.Spot
	}{
		{armA(), 3, around},
		{armA(), 0, nil},
		{armA(), 1, spots(0, -2, 0, -1, 0, 0, 0, 1, 0, 2, 1, -2, 1, -1, 1, 0, 1, 1, 1, 2, 2, -2, 2, -1, 2, 0, 2, 1, 2, 2)},
		{armB(), 3, spots(3, 0)},
		{armB(), 0, spots(0, 0)},
		{armB(), 6, spots(6, 0)},
		{api.Arm{}, 0, spots(0, 0)},
		{api.Arm{Last: 40}, 40, spots(40, 0)},
		{api.Arm{Last: 40, Gate: 4}, 40, spots(36, 0, 37, 0, 38, 0, 39, 0, 40, 0)},
		{api.Arm{Shake: 1}, 0, nil},
		{api.Arm{Force: 4, Shake: 2}, 0, nil},
		{free, 1, spots(0, 0, 1, 0, 2, 0)}, // without force it only rests
		{forced, 0, spots(0, -1, 0, 0, 0, 1, 1, -1, 1, 0, 1, 1)},
		{slow, 0, spots(0, 0, 1, 0)},
		{slow, 3, spots(2, 0, 3, 0)},
	} {
		if list, e := Stays(x.a, x.target); e != api.OK || !slices.Equal(list, x.want) {
			t.Errorf("%d: Stays of %v and %d = %v, %d", i, x.a, x.target, list, e)
		}
	}
}

// P6.3: Steps, with the examples, the lowest of several commands, and arms for which the way is plain.
func TestSteps(t *testing.T) {
	wide := api.Arm{Last: 8, Speed: 2, Force: 3, Gate: 4, Slow: 2}
	tardy := api.Arm{Last: 40, Speed: 1, Force: 1}
	free := api.Arm{Last: 5, Speed: 2, Gate: 2, Slow: 2}
	for i, x := range []struct {
		a              api.Arm
		target         int
		s              api.Spot
		steps, command int
		e              api.Errno
	}{
		{armA(), 3, spot(2, 0), 0, 1, api.OK},
		{armA(), 3, spot(1, 0), 0, 0, api.ErrNone},
		{armA(), 0, spot(0, 0), 0, 0, api.ErrNone},
		{armA(), 3, spot(2, -2), 0, 3, api.OK},
		{armA(), 3, spot(4, 2), 0, -3, api.OK},
		{armB(), 3, spot(0, 0), 3, 1, api.OK}, // by 1 and 2: to pass 2 and then 1 would be as fast
		{armB(), 3, spot(1, 1), 2, 1, api.OK},
		{armB(), 3, spot(3, 2), 1, -2, api.OK},
		{armB(), 3, spot(3, 0), 0, 0, api.OK},
		{armB(), 0, spot(0, -2), 1, 2, api.OK},
		{armB(), 0, spot(1, -2), 2, 1, api.OK},
		{armB(), 6, spot(6, 2), 1, -2, api.OK},
		{wide, 4, spot(4, 0), 0, -2, api.OK}, // of the commands from -2 to 2 the lowest one
		{wide, 4, spot(4, 2), 0, -3, api.OK}, // to the speed -1, which is the lowest that the force leads to
		{wide, 4, spot(8, 0), 0, -2, api.OK},
		{wide, 4, spot(0, 0), 0, 0, api.OK}, // a lower one hits the stop
		{tardy, 40, spot(0, 0), 41, 1, api.OK},
		{tardy, 40, spot(40, 1), 1, -1, api.OK},
		{tardy, 0, spot(40, 1), 42, -1, api.OK},
		{free, 5, spot(5, 0), 0, 0, api.OK},
		{free, 5, spot(3, 1), 0, 0, api.ErrNone}, // on track, but it cannot be stopped
		{free, 5, spot(2, 0), 0, 0, api.ErrNone},
		{api.Arm{}, 0, spot(0, 0), 0, 0, api.OK},
		{api.Arm{Force: 4}, 0, spot(0, 0), 0, 0, api.OK},
		{api.Arm{Force: 4, Shake: 2}, 0, spot(0, 0), 0, 0, api.ErrNone},
	} {
		if n, c, e := Steps(x.a, x.target, x.s); n != x.steps || c != x.command || e != x.e {
			t.Errorf("%d: Steps of %v, %d and %v = %d, %d, %d", i, x.a, x.target, x.s, n, c, e)
		}
	}
}

// P6.4: Run, with the example, no shocks and as many as there may be.
func TestRun(t *testing.T) {
	tardy := api.Arm{Last: 40, Speed: 1, Force: 1}
	var way []api.Spot
	for p := range 40 {
		way = append(way, spot(p+1, 1))
	}
	way = append(way, slices.Repeat(spots(40, 0), 160)...)
	for i, x := range []struct {
		a      api.Arm
		target int
		s      api.Spot
		shocks []int
		want   []api.Spot
	}{
		{armB(), 3, spot(0, 0), []int{0, 0, 0}, spots(1, 1, 3, 2, 3, 0)},
		{armB(), 3, spot(0, 0), []int{0, 0, 0, 0, 0}, spots(1, 1, 3, 2, 3, 0, 3, 0, 3, 0)},
		{armB(), 3, spot(0, 0), nil, nil},
		{armA(), 3, spot(2, 0), []int{0, 1, -1, 1}, spots(3, 1, 4, 1, 2, -2, 4, 2)},
		{armA(), 3, spot(2, 0), []int{-1, -1, 1, 1}, spots(2, 0, 2, 0, 4, 2, 4, 0)},
		{tardy, 40, spot(0, 0), make([]int, api.MaxRun), way},
	} {
		if list, e := Run(x.a, x.target, x.s, x.shocks); e != api.OK || !slices.Equal(list, x.want) {
			t.Errorf("%d: Run of %v, %d, %v and %v = %v, %d", i, x.a, x.target, x.s, x.shocks, list, e)
		}
	}
}

// P6.5: Table, with the examples, and the steps of Steps.
func TestTable(t *testing.T) {
	for i, x := range []struct {
		a     api.Arm
		first []int
	}{
		{armB(), []int{0, 2, 2, 3, 3, 4, 4}},
		{armA(), []int{-1, 0, -1, -1, -1, -1, -1}},
		{api.Arm{}, []int{0}},
		{api.Arm{Shake: 2}, []int{-1}},
		{api.Arm{Last: 2}, []int{0, -1, -1}},
		{api.Arm{Last: 3, Speed: 1, Force: 1, Gate: 1, Slow: 1}, []int{0, 0, 1, 2}},
	} {
		if table, e := Table(x.a); e != api.OK || len(table) != x.a.Last+1 || !slices.Equal(table[0], x.first) {
			t.Errorf("%d: Table of %v = %v, %d", i, x.a, table, e)
		}
	}
	for _, a := range append(medium(30), armL()) {
		table, e := Table(a)
		if e != api.OK || len(table) != a.Last+1 {
			t.Fatalf("Table of %v = %v, %d", a, table, e)
		}
		for p, row := range table {
			for target, n := range row {
				if n == -1 {
					n = never
				}
				if want := newSeek(t, a, target).steps(spot(p, 0)); len(row) != len(table) || n != want {
					t.Fatalf("Table of %v = %v, but Steps for %d of %d is %d", a, table, target, p, want)
				}
			}
		}
	}
}

// P6.6: Safe, with the example, and arms for which it is plain what is safe.
func TestSafe(t *testing.T) {
	for i, x := range []struct {
		a    api.Arm
		want []api.Spot
	}{
		{armA(), every(armA())},
		{api.Arm{}, spots(0, 0)},
		{api.Arm{Shake: 1}, nil},
		{api.Arm{Last: 40, Speed: 8, Shake: 1}, nil},
		{api.Arm{Last: 40, Speed: 8, Force: 1, Shake: 1}, nil}, // what a shock adds is taken off again, but the way is not
		{api.Arm{Last: 1, Speed: 1}, spots(0, 0, 1, 0)},
		{api.Arm{Last: 1, Speed: 2, Force: 1}, spots(0, -1, 0, 0, 0, 1, 0, 2, 1, -2, 1, -1, 1, 0, 1, 1)}, // 0 2 has room for one more step
	} {
		if list, e := Safe(x.a); e != api.OK || !slices.Equal(list, x.want) {
			t.Errorf("%d: Safe of %v = %v, %d", i, x.a, list, e)
		}
	}
	if list, _ := Safe(armA()); len(list) != 35 {
		t.Errorf("Safe of A: %d states", len(list))
	}
}

// P6.7: Park, with the examples, and arms that have nothing safe, or lost states.
func TestPark(t *testing.T) {
	for i, x := range []struct {
		a    api.Arm
		want int
		e    api.Errno
	}{
		{armA(), 0, api.ErrNone},
		{armB(), 5, api.OK},
		{api.Arm{}, 0, api.OK},
		{api.Arm{Shake: 1}, 0, api.ErrNone},                 // nothing is safe
		{api.Arm{Last: 1}, 0, api.ErrNone},                  // 1 0 is safe, but lost for 0
		{api.Arm{Last: 4, Gate: 4}, 0, api.OK},              // everything is there
		{api.Arm{Last: 40, Speed: 1, Force: 1}, 42, api.OK}, // from 40 1
	} {
		if n, e := Park(x.a); n != x.want || e != x.e {
			t.Errorf("%d: Park of %v = %d, %d", i, x.a, n, e)
		}
	}
}
