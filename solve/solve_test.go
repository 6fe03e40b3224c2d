package solve_test

import (
	"math"
	"slices"
	"testing"

	"replevin/api"
	"replevin/cnf"
	"replevin/lrat"
	"replevin/rup"
	"replevin/solve"
)

func formula(vars int, clauses ...[]int) api.Formula {
	return api.Formula{Vars: vars, Clauses: clauses}
}

func TestUnit(t *testing.T) {
	for restart, want := range map[int]int{1: 1, 0: 1, -5: 1, 50: 50, api.MaxBudget: api.MaxBudget, api.MaxBudget + 1: api.MaxBudget, math.MaxInt: api.MaxBudget, math.MinInt: 1} {
		if got := solve.Unit(api.Tune{Restart: restart, Keep: 3, Decay: 9}); got != want {
			t.Errorf("of %d: %d", restart, got)
		}
	}
}

func TestErrors(t *testing.T) {
	for i, x := range []struct {
		f      api.Formula
		budget int
		e      api.Errno
	}{
		{formula(1), -1, api.ErrArg}, {formula(1), api.MaxBudget + 1, api.ErrArg}, {formula(901), -1, api.ErrArg}, {formula(901), 0, api.ErrBig}, {formula(-1), 0, api.ErrArg},
		{formula(1, []int{2}), 9, api.ErrLit}, {formula(1, []int{1, 1}), 9, api.ErrDup}, {formula(1, []int{1, -1}), 9, api.ErrClause}, {formula(1, []int{1, -1}), math.MaxInt, api.ErrArg},
	} {
		r, e := solve.Solve(x.f, api.Tune{}, x.budget)
		if e != x.e || r.Kind != 0 || r.Conflicts != 0 || len(r.Model) > 0 || len(r.Proof) > 0 {
			t.Errorf("%d: %d, %v", i, e, r)
		}
		if ok, e := solve.Holds(x.f, x.budget); ok || e != x.e {
			t.Errorf("%d: %t, %d", i, ok, e)
		}
	}
}

func TestSolve(t *testing.T) {
	four := formula(2, []int{1, 2}, []int{-1, 2}, []int{1, -2}, []int{-1, -2})
	for i, x := range []struct {
		f         api.Formula
		budget    int
		kind      int
		conflicts int // -1: any number
	}{
		{formula(1, []int{1}, []int{-1}), 0, api.Spent, 0}, {formula(1, []int{1}, []int{-1}), 1, api.Unsat, 1}, {formula(1, []int{1}, []int{-1}), api.MaxBudget, api.Unsat, 1},
		{formula(0), 0, api.Sat, 0}, {formula(0, nil), 0, api.Unsat, 0}, {formula(3), 0, api.Sat, 0}, {formula(3, []int{1}, []int{-1, 2}, []int{-2, -3}), 0, api.Sat, 0},
		{four, 0, api.Spent, 0}, {four, 9, api.Unsat, -1}, {formula(900, []int{900}, []int{-1}), 5, api.Sat, 0},
	} {
		r, e := solve.Solve(x.f, api.Tune{Restart: 1, Keep: 1, Decay: 1}, x.budget)
		if e != api.OK || r.Kind != x.kind || x.conflicts >= 0 && r.Conflicts != x.conflicts {
			t.Errorf("%d: %d, %v", i, e, r)
		}
		right(t, x.f, r, x.budget)
		ok, e := solve.Holds(x.f, x.budget)
		want := map[int]api.Errno{api.Spent: api.ErrOut}[r.Kind]
		if ok != (r.Kind == api.Sat) || e != want {
			t.Errorf("%d: %t, %d", i, ok, e)
		}
	}
}

// right holds a result against its formula.
func right(t *testing.T, f api.Formula, r api.Result, budget int) {
	t.Helper()
	if r.Conflicts < 0 || r.Conflicts > budget || (len(r.Model) > 0) != (r.Kind == api.Sat && f.Vars > 0) || len(r.Proof) > 0 && r.Kind != api.Unsat {
		t.Fatal(f, r)
	}
	switch r.Kind {
	case api.Sat:
		if !cnf.Holds(f, r.Model) {
			t.Fatal(f, r)
		}
	case api.Unsat:
		if at, e := lrat.Check(f, r.Proof); e != api.OK || at != len(r.Proof) || !plainProof(f, r.Proof) {
			t.Fatal(f, r, e)
		}
	case api.Spent:
		if r.Conflicts != budget {
			t.Fatal(f, r)
		}
	default:
		t.Fatal(f, r)
	}
}

// plainProof tells whether each step that adds is shown by its hints.
func plainProof(f api.Formula, l []api.Step) bool {
	c, _ := lrat.New(f)
	for _, s := range l {
		var hints [][]int
		for _, h := range s.Hints {
			row, _ := c.Clause(h)
			hints = append(hints, row)
		}
		if _, e := rup.Show(s.Lits, hints); s.Kind == api.StepAdd && e != api.OK {
			return false
		}
		c.Step(s)
	}
	return true
}

// chance tells numbers that look like chance, always the same ones.
type chance uint64

func (c *chance) below(n int) int {
	*c = *c*6364136223846793005 + 1442695040888963407
	return int(uint64(*c)>>33) % n
}

// some tells a formula of so many variables.
func (c *chance) some(vars, clauses int) api.Formula {
	f := formula(vars)
	for range clauses {
		var row []int
		n := 1 + c.below(3) + c.below(2)
		for len(row) < min(n, vars) {
			if v := 1 + c.below(vars); !slices.Contains(row, v) && !slices.Contains(row, -v) {
				row = append(row, v*(1-2*c.below(2)))
			}
		}
		f.Clauses = append(f.Clauses, row)
	}
	return f
}

// somewhere tells whether a formula holds with some truths.
func somewhere(f api.Formula) bool {
	m := make([]bool, f.Vars)
	for n := range 1 << f.Vars {
		for v := range m {
			m[v] = n>>v&1 == 1
		}
		if cnf.Holds(f, m) {
			return true
		}
	}
	return false
}

func TestRight(t *testing.T) {
	var c chance
	some := []int{0, 1, -1, 3, 50, 1000, math.MaxInt, math.MinInt}
	kinds := map[int]int{}
	for range 4000 {
		vars := 1 + c.below(9)
		f := c.some(vars, c.below(6*vars))
		tune := api.Tune{Restart: some[c.below(8)], Keep: some[c.below(8)], Decay: some[c.below(8)]}
		budget := c.below(6) * c.below(30)
		r, e := solve.Solve(f, tune, budget)
		if e != api.OK || r.Kind == api.Sat && !somewhere(f) || r.Kind == api.Unsat && somewhere(f) {
			t.Fatal(f, r, e)
		}
		right(t, f, r, budget)
		kinds[r.Kind]++
		ok, e := solve.Holds(f, api.MaxBudget)
		if e != api.OK || ok != somewhere(f) {
			t.Fatal(f, ok, e)
		}
	}
	if kinds[api.Sat] < 500 || kinds[api.Unsat] < 500 || kinds[api.Spent] < 100 {
		t.Error("too few of one kind:", kinds)
	}
}

// TestEnds: of four variables no more than 81 conflicts are needed.
func TestEnds(t *testing.T) {
	var c chance = 3
	for range 3000 {
		f := c.some(1+c.below(4), 4+c.below(30))
		r, e := solve.Solve(f, api.Tune{Restart: c.below(3), Keep: c.below(3), Decay: c.below(99)}, 81)
		if e != api.OK || r.Kind == api.Spent {
			t.Fatal(f, r, e)
		}
		right(t, f, r, 81)
	}
}

// TestLong: searches that begin again, and forget, many times.
func TestLong(t *testing.T) {
	var c chance = 4
	for n, tune := range []api.Tune{{Restart: 1, Keep: 0, Decay: 0}, {Restart: 50, Keep: 500, Decay: 5}, {Restart: 7, Keep: 200, Decay: 50}} {
		f := formula(90)
		for range 400 {
			row := []int{1 + c.below(30), 31 + c.below(30), 61 + c.below(30)}
			for i := range row {
				row[i] *= 1 - 2*c.below(2)
			}
			f.Clauses = append(f.Clauses, row)
		}
		r, e := solve.Solve(f, tune, 5000)
		if e != api.OK {
			t.Fatal(n, r.Kind, r.Conflicts, e)
		}
		right(t, f, r, 5000)
	}
}

func TestKeepsNothing(t *testing.T) {
	f := formula(3, []int{1, 2}, []int{-1, 3})
	f.Clauses = append(make([][]int, 0, 8), f.Clauses...)
	solve.Solve(f, api.Tune{}, 9)
	if !cnf.Same(f, formula(3, []int{1, 2}, []int{-1, 3})) || f.Clauses[:3][2] != nil {
		t.Error("what was handed in was changed")
	}
}
