package trim_test

import (
	"slices"
	"testing"

	"replevin/api"
	"replevin/brute"
	"replevin/cnf"
	"replevin/lrat"
	"replevin/proof"
	"replevin/solve"
	"replevin/trim"
)

func formula(vars int, clauses ...[]int) api.Formula {
	return api.Formula{Vars: vars, Clauses: clauses}
}

func add(id int, lits []int, hints ...int) api.Step {
	return api.Step{Kind: api.StepAdd, Id: id, Lits: lits, Hints: hints}
}

func del(id int, hints ...int) api.Step {
	return api.Step{Kind: api.StepDelete, Id: id, Hints: hints}
}

// three: 1, -1 and 2, of which the last one is not needed.
func three() api.Formula { return formula(2, []int{1}, []int{-1}, []int{2}) }

// four has all sides of two variables.
func four() api.Formula {
	return formula(3, []int{1, 2}, []int{-1, 2}, []int{3}, []int{1, -2}, []int{-1, -2})
}

var some = []struct {
	f      api.Formula
	l      []api.Step
	plain  bool
	needed []int
	trim   []api.Step
	core   []int
	g      api.Formula
	m      []api.Step
}{
	{three(), []api.Step{add(4, []int{2}, 3), add(5, nil, 1, 2)}, true, []int{1, 2, 5}, []api.Step{add(5, nil, 1, 2)}, []int{1, 2}, formula(2, []int{1}, []int{-1}), []api.Step{add(3, nil, 1, 2)}},
	{four(), []api.Step{add(6, []int{3, 1}, 3), add(9, []int{2}, 1, 2), del(9, 1, 3), add(12, nil, 9, 4, 5), add(13, []int{3}, 12)}, true, []int{1, 2, 4, 5, 9, 12}, []api.Step{add(9, []int{2}, 1, 2), add(12, nil, 9, 4, 5)}, []int{1, 2, 4, 5},
		formula(3, []int{1, 2}, []int{-1, 2}, []int{1, -2}, []int{-1, -2}), []api.Step{add(5, []int{2}, 1, 2), add(6, nil, 5, 3, 4)}},
	{four(), []api.Step{add(6, []int{2}, 1, 2), add(7, nil, 6, 4, 5, 3, 3), add(8, nil, 7), del(0, 8)}, true, []int{1, 2, 3, 4, 5, 6, 7}, []api.Step{add(6, []int{2}, 1, 2), add(7, nil, 6, 4, 5, 3, 3)}, []int{1, 2, 3, 4, 5}, four(), []api.Step{add(6, []int{2}, 1, 2), add(7, nil, 6, 4, 5, 3, 3)}},
	{formula(2, []int{1}, nil, []int{2}, nil), []api.Step{add(5, nil, 2), del(9, 1)}, true, []int{2}, nil, []int{2}, formula(2, nil), nil}, {formula(0, nil), nil, true, []int{1}, nil, []int{1}, formula(0, nil), nil},
	{three(), []api.Step{add(4, []int{-2, 1}, 1), add(6, nil, 1, 2)}, true, []int{1, 2, 6}, []api.Step{add(6, nil, 1, 2)}, []int{1, 2}, formula(2, []int{1}, []int{-1}), []api.Step{add(3, nil, 1, 2)}},
	{formula(3, []int{1}, []int{-1}), []api.Step{add(4, []int{3}), del(0, 4), add(6, nil, 1, 2)}, false, []int{1, 2, 4, 6}, []api.Step{add(4, []int{3}), del(0, 4), add(6, nil, 1, 2)}, []int{1, 2}, formula(3, []int{1}, []int{-1}), []api.Step{add(4, []int{3}), del(0, 4), add(6, nil, 1, 2)}},
	{formula(2, []int{1}, []int{-1}, []int{2}), []api.Step{add(4, []int{1, 2}, 1, -3), add(6, nil, 1, 2)}, false, []int{1, 2, 3, 4, 6}, []api.Step{add(4, []int{1, 2}, 1, -3), add(6, nil, 1, 2)}, []int{1, 2, 3}, three(), []api.Step{add(4, []int{1, 2}, 1, -3), add(6, nil, 1, 2)}},
	{formula(2, nil, []int{2}), []api.Step{add(3, []int{1})}, false, []int{1, 2, 3}, []api.Step{add(3, []int{1})}, []int{1, 2}, formula(2, nil, []int{2}), []api.Step{add(3, []int{1})}},
}

func TestSome(t *testing.T) {
	for i, x := range some {
		was := slices.Clone(x.l)
		if trim.Plain(x.f, x.l) != x.plain {
			t.Errorf("%d: Plain is not %t", i, x.plain)
		}
		if got, e := trim.Needed(x.f, x.l); !slices.Equal(got, x.needed) || e != api.OK {
			t.Errorf("%d: Needed %v, %d", i, got, e)
		}
		if got, e := trim.Trim(x.f, x.l); !proof.Same(got, x.trim) || e != api.OK {
			t.Errorf("%d: Trim %v, %d", i, got, e)
		}
		if got, e := trim.Core(x.f, x.l); !slices.Equal(got, x.core) || e != api.OK {
			t.Errorf("%d: Core %v, %d", i, got, e)
		}
		if g, m, e := trim.Renumber(x.f, x.l); !cnf.Same(g, x.g) || !proof.Same(m, x.m) || e != api.OK {
			t.Errorf("%d: Renumber %v, %v, %d", i, g, m, e)
		}
		if !proof.Same(was, x.l) {
			t.Errorf("%d: what was handed in was changed", i)
		}
	}
}

func TestErrors(t *testing.T) {
	for i, x := range []struct {
		f api.Formula
		l []api.Step
		e api.Errno
	}{
		{formula(-1), nil, api.ErrArg}, {formula(1, []int{1, -1}), nil, api.ErrClause}, {three(), nil, api.ErrEnd}, {three(), []api.Step{add(4, nil, 1)}, api.ErrLast}, {three(), []api.Step{{}}, api.ErrArg}, {three(), []api.Step{add(4, nil, 1, 2), del(0, 9)}, api.ErrId},
		{three(), []api.Step{add(3, nil, 1, 2)}, api.ErrDup}, {three(), []api.Step{add(4, []int{-1, -2}), add(5, nil, 1, 2)}, api.ErrRat}, {three(), []api.Step{add(4, nil, 3, 3)}, api.ErrHint}, {formula(0, nil), []api.Step{{}}, api.ErrArg},
	} {
		if trim.Plain(x.f, x.l) {
			t.Errorf("%d: Plain", i)
		}
		if got, e := trim.Needed(x.f, x.l); len(got) > 0 || e != x.e {
			t.Errorf("%d: Needed %v, %d", i, got, e)
		}
		if got, e := trim.Trim(x.f, x.l); len(got) > 0 || e != x.e {
			t.Errorf("%d: Trim %v, %d", i, got, e)
		}
		if got, e := trim.Core(x.f, x.l); len(got) > 0 || e != x.e {
			t.Errorf("%d: Core %v, %d", i, got, e)
		}
		if g, m, e := trim.Renumber(x.f, x.l); g.Vars != 0 || len(g.Clauses) > 0 || len(m) > 0 || e != x.e {
			t.Errorf("%d: Renumber %v, %v, %d", i, g, m, e)
		}
	}
}

func TestKeepsNothing(t *testing.T) {
	for _, k := range []int{1, 7} {
		x := some[k]
		f, l := cnf.With(x.f), slices.Clone(x.l)
		for i := range l {
			l[i].Lits, l[i].Hints = slices.Clone(l[i].Lits), slices.Clone(l[i].Hints)
		}
		a, _ := trim.Trim(f, l)
		g, b, _ := trim.Renumber(f, l)
		for _, steps := range [][]api.Step{a, b} {
			for _, s := range steps {
				s.Hints[0] = 99
				if len(s.Lits) > 0 {
					s.Lits[0] = 99
				}
			}
		}
		g.Clauses[0][0] = 99
		if !cnf.Same(f, x.f) || !proof.Same(l, x.l) {
			t.Error("what is told shares memory with what was given")
		}
	}
}

// chance tells numbers that look like chance, always the same ones.
type chance uint64

func (c *chance) below(n int) int {
	*c = *c*6364136223846793005 + 1442695040888963407
	return int(uint64(*c)>>33) % n
}

// some tells a formula of nine variables.
func (c *chance) some() api.Formula {
	f := formula(9)
	for range 30 + c.below(40) {
		var row []int
		for len(row) < 3 {
			if v := 1 + c.below(9); !slices.Contains(row, v) && !slices.Contains(row, -v) {
				row = append(row, v*(1-2*c.below(2)))
			}
		}
		f.Clauses = append(f.Clauses, row)
	}
	return f
}

func TestStays(t *testing.T) {
	var c chance
	proofs, shorter := 0, 0
	for range 2000 {
		f := c.some()
		r, _ := solve.Solve(f, api.Tune{Restart: 3, Keep: c.below(100), Decay: 5}, 10000)
		if r.Kind != api.Unsat {
			continue
		}
		proofs++
		if !trim.Plain(f, r.Proof) {
			t.Fatal(f, r.Proof)
		}
		l, e := trim.Trim(f, r.Proof)
		if at, e2 := lrat.Check(f, l); e != api.OK || e2 != api.OK || at != len(l) || len(l) > len(r.Proof) {
			t.Fatal(f, l, e, e2)
		}
		if again, _ := trim.Trim(f, l); !proof.Same(again, l) {
			t.Fatal(f, l, again)
		}
		if len(l) < len(r.Proof) {
			shorter++
		}
		core, _ := trim.Core(f, r.Proof)
		needed, _ := trim.Needed(f, r.Proof)
		if !slices.IsSorted(needed) || !slices.Equal(core, needed[:len(core)]) || len(needed) != len(core)+len(l) {
			t.Fatal(f, core, needed)
		}
		g, m, e := trim.Renumber(f, r.Proof)
		if at, e2 := lrat.Check(g, m); e != api.OK || e2 != api.OK || at != len(m) || len(g.Clauses) != len(core) {
			t.Fatal(g, m, e, e2)
		}
		for i, s := range m {
			if s.Id != len(core)+1+i {
				t.Fatal(m)
			}
		}
		if n, _ := brute.Count(g); n != 0 {
			t.Fatal(g, n)
		}
	}
	if proofs < 300 || shorter < 30 {
		t.Error("too few proofs, or too few that were made shorter:", proofs, shorter)
	}
}
