package assign_test

import (
	"math"
	"slices"
	"testing"

	"replevin/api"
	"replevin/assign"
)

const big = api.MaxVars + 1

func TestCheck(t *testing.T) {
	for i, x := range []struct {
		l    []int
		vars int
		want api.Errno
	}{
		{nil, 0, api.OK}, {nil, -1, api.ErrArg}, {nil, big, api.ErrArg}, {nil, api.MaxVars, api.OK},
		{[]int{1, -2}, 2, api.OK}, {[]int{-2, 1}, 1, api.ErrLit}, {[]int{0}, 1, api.ErrLit},
		{[]int{1, 1}, 1, api.ErrDup}, {[]int{1, -1}, 1, api.ErrDup}, {[]int{1, -1, 9}, 3, api.ErrLit},
		{[]int{math.MinInt}, 3, api.ErrLit}, {[]int{1, 2, 3, -2}, 3, api.ErrDup},
		{[]int{0}, -1, api.ErrArg},
	} {
		if got := assign.Check(x.l, x.vars); got != x.want {
			t.Errorf("%d: %d, not %d", i, got, x.want)
		}
	}
}

func TestValue(t *testing.T) {
	l := []int{1, -2, 4, -4, 0, big, -big, math.MinInt}
	for x, want := range map[int]int{1: 1, -1: -1, 2: -1, -2: 1, 3: 0, -3: 0, 4: 1, -4: 1, 0: 0, big: 0, -big: 0, math.MinInt: 0} {
		if got := assign.Value(l, x); got != want {
			t.Errorf("Value of %d: %d, not %d", x, got, want)
		}
	}
	if assign.Value(nil, 1) != 0 {
		t.Error("a literal has a value in nothing")
	}
}

func TestClause(t *testing.T) {
	long := []int{1, -2, 5, 6, 7, 8, 9, 10, 11, 12}
	for i, x := range []struct {
		l, c   []int
		want   int
		counts [3]int
		unit   int
		ok     bool
	}{
		{nil, nil, -1, [3]int{}, 0, false},
		{nil, []int{0, big}, -1, [3]int{}, 0, false},
		{nil, []int{3}, 0, [3]int{0, 0, 1}, 3, true},
		{[]int{1, -2}, []int{-1, 2, 3}, 0, [3]int{0, 2, 1}, 3, true},
		{[]int{1, -2}, []int{-1, 2}, -1, [3]int{0, 2, 0}, 0, false},
		{[]int{1, -2}, []int{-1, -2}, 1, [3]int{1, 1, 0}, 0, false},
		{[]int{1, -2}, []int{3, -2}, 1, [3]int{1, 0, 1}, 0, false},
		{[]int{1, -2}, []int{3, -3}, 0, [3]int{0, 0, 2}, 0, false},
		{[]int{1, -2}, []int{3, 3}, 0, [3]int{0, 0, 2}, 0, false},
		{[]int{1, -2}, []int{-1, -1, -3, 0, math.MinInt}, 0, [3]int{0, 2, 1}, -3, true},
		{[]int{1, -1}, []int{1, -1}, 1, [3]int{2, 0, 0}, 0, false},
		{[]int{1, -1}, []int{-1, 2}, 1, [3]int{1, 0, 1}, 0, false},
		{long, []int{-1, 2, -5, -6, -7, -8, -9, -10, 0, -20, big}, 0, [3]int{0, 8, 1}, -20, true},
		{long, []int{-1, 2, -5, -6, -7, -8, -9, -10, -11}, -1, [3]int{0, 9, 0}, 0, false},
		{long, []int{-1, 2, -5, -6, -7, -8, -9, -10, 11, 20}, 1, [3]int{1, 8, 1}, 0, false},
		{append([]int{0, big, -big}, long...), []int{0, big, -big, 1, 2, 5, 6, 7, 8, 9, 30, 31}, 1, [3]int{6, 1, 2}, 0, false},
	} {
		if got := assign.Clause(x.l, x.c); got != x.want {
			t.Errorf("%d: Clause %d, not %d", i, got, x.want)
		}
		if got := assign.Count(x.l, x.c); got != x.counts {
			t.Errorf("%d: Count %v, not %v", i, got, x.counts)
		}
		if u, ok := assign.Unit(x.l, x.c); u != x.unit || ok != x.ok {
			t.Errorf("%d: Unit %d %t", i, u, ok)
		}
	}
}

func TestFull(t *testing.T) {
	for i, x := range []struct {
		l    []int
		vars int
		want bool
	}{
		{nil, 0, true}, {nil, 1, false}, {[]int{1, -2}, 2, true}, {[]int{-2, 1}, 2, true}, {[]int{1, -2}, 3, false},
		{[]int{1, -1}, 2, false}, {[]int{1, 3}, 2, false}, {[]int{1, 2, 2}, 2, false}, {nil, -1, false}, {[]int{1, 2}, 1, false},
	} {
		if assign.Full(x.l, x.vars) != x.want {
			t.Errorf("%d: not %t", i, x.want)
		}
	}
}

func TestModel(t *testing.T) {
	l := []int{3, -1, 2, -2, 9, 0, math.MinInt}
	if got := assign.Model(l, 4); !slices.Equal(got, []bool{false, true, true, false}) {
		t.Error(got)
	}
	if len(assign.Model(l, 0)) != 0 || len(assign.Model(l, -1)) != 0 || len(assign.Model(l, big)) != 0 {
		t.Error("truths of no variables")
	}
	if m := assign.Model([]int{api.MaxVars}, api.MaxVars); len(m) != api.MaxVars || !m[api.MaxVars-1] {
		t.Error("truths of all variables")
	}
}

func TestFrom(t *testing.T) {
	if got := assign.From([]bool{true, false, true}); !slices.Equal(got, []int{1, -2, 3}) {
		t.Error(got)
	}
	if len(assign.From(nil)) != 0 || len(assign.From(make([]bool, big))) != 0 {
		t.Error("literals of nothing, or of too much")
	}
	if l := assign.From(make([]bool, api.MaxVars)); len(l) != api.MaxVars || l[api.MaxVars-1] != -api.MaxVars {
		t.Error("literals of all variables")
	}
}

// clauses tells all rows of at most three literals of three variables.
func clauses() [][]int {
	all := [][]int{nil}
	for i := 0; i < len(all); i++ {
		for l := -3; l <= 3 && len(all[i]) < 3; l++ {
			if l != 0 {
				all = append(all, append(slices.Clone(all[i]), l))
			}
		}
	}
	return all
}

func TestFullSaysModel(t *testing.T) {
	for n := range 8 {
		m := []bool{n&1 > 0, n&2 > 0, n&4 > 0}
		l := assign.From(m)
		if !assign.Full(l, 3) || !slices.Equal(assign.Model(l, 3), m) {
			t.Fatalf("%v, %v", m, l)
		}
		for _, c := range clauses() {
			holds := slices.ContainsFunc(c, func(x int) bool { return x > 0 && m[x-1] || x < 0 && !m[-x-1] })
			if want := assign.Clause(l, c) == 1; want != holds {
				t.Fatalf("%v in %v", c, l)
			}
		}
	}
}

func TestUnits(t *testing.T) {
	for _, l := range [][]int{nil, {1}, {-2}, {1, -2}, {3, 1}, {-1, -2, 3}} {
		for _, c := range clauses() {
			u, ok := assign.Unit(l, c)
			if !ok {
				continue
			}
			if assign.Clause(append(slices.Clone(l), u), c) != 1 || assign.Clause(append(slices.Clone(l), -u), c) != -1 {
				t.Fatalf("%v in %v: %d", c, l, u)
			}
		}
	}
}
