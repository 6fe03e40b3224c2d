package lrat_test

import (
	"slices"
	"testing"

	"replevin/api"
	"replevin/lrat"
)

func formula(vars int, clauses ...[]int) api.Formula {
	return api.Formula{Vars: vars, Clauses: clauses}
}

func add(id int, lits []int, hints ...int) api.Step {
	return api.Step{Kind: api.StepAdd, Id: id, Lits: lits, Hints: hints}
}

func del(id int, hints ...int) api.Step {
	return api.Step{Kind: api.StepDelete, Id: id, Hints: hints}
}

func TestNone(t *testing.T) {
	for _, c := range []*lrat.Checker{nil, {}} {
		lits, ok := c.Clause(1)
		if c.Step(add(1, nil)) != api.ErrNil || c.Step(api.Step{}) != api.ErrNil || c.Done() || len(lits) > 0 || ok || len(c.Ids()) > 0 {
			t.Error("a checker that was not made does something")
		}
	}
}

func TestNew(t *testing.T) {
	for i, x := range []struct {
		f api.Formula
		e api.Errno
	}{
		{formula(-1), api.ErrArg}, {formula(1, []int{2}), api.ErrLit}, {formula(1, []int{1, 1}), api.ErrDup}, {formula(1, []int{1, -1}), api.ErrClause},
		{formula(0), api.OK}, {formula(2, []int{1}, nil), api.OK},
	} {
		c, e := lrat.New(x.f)
		if e != x.e || (c != nil) != (e == api.OK) {
			t.Errorf("%d: %d", i, e)
		}
	}
	if at, e := lrat.Check(formula(1, []int{1, -1}), []api.Step{{}}); at != -1 || e != api.ErrClause {
		t.Error(at, e)
	}
}

func TestClauses(t *testing.T) {
	f := formula(3, []int{3, -1}, []int{2})
	c, _ := lrat.New(f)
	f.Clauses[0][0] = 1
	lits, ok := c.Clause(1)
	if !slices.Equal(lits, []int{3, -1}) || !ok || !slices.Equal(c.Ids(), []int{1, 2}) || c.Done() {
		t.Error(lits, ok, c.Ids())
	}
	lits[0] = 2
	c.Ids()[0] = 7
	if lits, _ = c.Clause(1); !slices.Equal(lits, []int{3, -1}) || !slices.Equal(c.Ids(), []int{1, 2}) {
		t.Error("a checker shares memory with what it told")
	}
	for _, id := range []int{0, -1, 3, 1 << 60} {
		if lits, ok := c.Clause(id); ok || len(lits) > 0 {
			t.Error(id, lits)
		}
	}
	s := add(9, []int{3, 1}, 1, 2)
	s.Lits, s.Hints = []int{2, 3}, []int{2}
	if e := c.Step(s); e != api.OK {
		t.Fatal(e)
	}
	s.Lits[0] = 1
	if lits, ok := c.Clause(9); !ok || !slices.Equal(lits, []int{2, 3}) || !slices.Equal(c.Ids(), []int{1, 2, 9}) {
		t.Error(lits, ok)
	}
}

// TestStep: steps on a checker of 1 to 6; what is behind an error changes nothing.
func TestStep(t *testing.T) {
	f := formula(9, []int{1, 2}, []int{-1, 3}, []int{-2, 3}, []int{-3, 4}, []int{-7, 5}, []int{-7, -4})
	for i, x := range []struct {
		s api.Step
		e api.Errno
	}{
		{api.Step{}, api.ErrArg}, {add(0, nil), api.ErrArg}, {add(7, []int{0}), api.ErrArg}, {add(7, []int{3, 3}), api.ErrArg}, {add(7, nil, 0), api.ErrArg},
		{api.Step{Kind: 2, Id: 9, Lits: []int{1}}, api.ErrArg}, {del(0, -1), api.ErrArg}, {add(api.MaxId+1, nil), api.ErrArg}, {add(3, []int{0}), api.ErrArg},
		{del(0), api.OK}, {del(0, 1, 6), api.OK}, {del(9, 7), api.ErrId}, {del(0, 1, 1), api.ErrId}, {del(0, 1, 7), api.ErrId},
		{add(6, []int{8}), api.ErrDup}, {add(1, []int{1, -1}), api.ErrDup}, {add(6, nil, 77), api.ErrDup}, {add(7, []int{1, -1}, 77), api.ErrClause},
		{add(7, []int{3}, 77), api.ErrId}, {add(7, []int{3}, 1, -7), api.ErrId}, {add(7, []int{3}, 1, -77, 1), api.ErrId},
		{add(7, []int{3}, 2, 3, 1), api.OK}, {add(77, []int{3}, 2, 3, 1), api.OK}, {add(api.MaxId, []int{4}, 4, 2, 3, 1), api.OK},
		{add(7, []int{3}, 1, 2, 3), api.ErrHint}, {add(7, []int{3}, 2, 4), api.ErrHint}, {add(7, []int{3}, 2, 3), api.ErrRat}, {add(7, nil), api.ErrLast},
		{add(7, nil, 4), api.ErrHint}, {add(7, nil, -1), api.ErrLast}, {add(7, []int{3}, 2, 3, 1, -1), api.OK},
		{add(7, []int{8}), api.OK}, {add(7, []int{-8, 1}), api.OK}, {add(7, []int{1, 8}), api.ErrRat},
		{add(7, []int{7, 3}, -5, -6), api.ErrRat}, {add(7, []int{7, -5}, -5, -6), api.ErrRat}, {add(7, []int{7, -5, 4}, -5, -6), api.OK},
		{add(7, []int{7, -5, 4}, -6, -5), api.OK}, {add(7, []int{7, -5, 4}, -6), api.ErrRat}, {add(7, []int{7, -5, 4}, -6, -5, -1), api.OK},
		{add(7, []int{4, 7, -8}, 4, -6), api.OK}, {add(7, []int{4, -7, -8}, 4, -6), api.ErrRat}, {add(7, []int{4, 3, -8}, -6, 4), api.ErrRat}, {add(7, []int{4, 3}, 2, -6, 3, 1), api.OK},
		{add(7, []int{4, 3}, 2, -6, 1), api.ErrRat}, {add(7, []int{4, 3}, 2, -6, 1, -6, 3, 1), api.OK}, {add(7, []int{4, 3}, 2, -6, 3, 1, -6, 1), api.ErrRat},
	} {
		c, e := lrat.New(f)
		if e != api.OK {
			t.Fatal(e)
		}
		if e := c.Step(x.s); e != x.e {
			t.Errorf("%d: %d, not %d", i, e, x.e)
		}
		want := []int{1, 2, 3, 4, 5, 6}
		switch {
		case x.e == api.OK && x.s.Kind == api.StepAdd:
			want = append(want, x.s.Id)
		case x.e == api.OK:
			want = slices.DeleteFunc(want, func(n int) bool { return slices.Contains(x.s.Hints, n) })
		}
		if !slices.Equal(c.Ids(), want) || c.Done() {
			t.Errorf("%d: %v, %t", i, c.Ids(), c.Done())
		}
		if e := c.Step(add(7, []int{9})); (e == api.OK) != (x.e != api.OK || x.s.Kind == api.StepDelete) {
			t.Errorf("%d: a step behind it: %d", i, e)
		}
	}
}

func TestDeleted(t *testing.T) {
	c, _ := lrat.New(formula(3, []int{1}, []int{-1, 2}))
	for i, x := range []struct {
		s api.Step
		e api.Errno
	}{
		{add(3, []int{2}, 1, 2), api.OK}, {del(0, 1), api.OK}, {add(4, []int{2, 3}, 1, 2), api.ErrId}, {del(0, 1), api.ErrId},
		{add(4, []int{2, 3}, 3), api.OK}, {del(0, 3, 4), api.OK}, {add(4, []int{3}), api.ErrDup}, {add(3, []int{3}), api.ErrDup}, {add(5, []int{-1, 3, 2}, 2), api.OK},
		{del(7, 5, 2), api.OK}, {add(6, []int{-1}), api.OK}, {add(7, []int{1}), api.ErrRat}, {add(7, []int{1}, -6), api.ErrRat}, {del(0, 6), api.OK}, {add(7, []int{1}), api.OK},
	} {
		if e := c.Step(x.s); e != x.e {
			t.Errorf("%d: %d, not %d", i, e, x.e)
		}
	}
	if _, ok := c.Clause(3); ok || !slices.Equal(c.Ids(), []int{7}) {
		t.Error(c.Ids())
	}
}

func TestDone(t *testing.T) {
	c, _ := lrat.New(formula(1, []int{1}, nil))
	if !c.Done() || c.Step(del(0, 2)) != api.OK || !c.Done() {
		t.Error("an empty clause that there was does not count")
	}
	c, _ = lrat.New(formula(1, []int{1}, []int{-1}))
	if c.Done() || c.Step(add(3, nil, 1, 2)) != api.OK || !c.Done() || c.Step(del(0, 3)) != api.OK || !c.Done() {
		t.Error("an empty clause that was added does not count")
	}
}

func TestCheck(t *testing.T) {
	f := formula(3, []int{1, 2}, []int{-1, 2}, []int{1, -2}, []int{-1, -2})
	for i, x := range []struct {
		f  api.Formula
		l  []api.Step
		at int
		e  api.Errno
	}{
		{formula(1, []int{1}, []int{-1}), []api.Step{add(3, nil, 1, 2)}, 1, api.OK},
		{f, []api.Step{add(5, []int{2}, 1, 2), del(5, 1, 2), add(6, nil, 5, 3, 4)}, 3, api.OK},
		{f, []api.Step{add(5, []int{2}, 1, 2), add(6, nil, 5, 3, 4), del(0, 6)}, 3, api.OK},
		{f, []api.Step{add(5, []int{2}, 1, 2), add(6, nil, 5, 3, 4), add(7, []int{3}, 6), del(0, 6)}, 4, api.OK},
		{f, []api.Step{add(5, []int{2}, 1, 2), add(6, nil, 5, 3, 4), del(0, 7)}, 2, api.ErrId},
		{f, []api.Step{add(5, []int{2}, 1, 2), add(6, nil, 3, 4)}, 1, api.ErrHint},
		{f, []api.Step{add(5, []int{2}, 1, 2)}, 1, api.ErrEnd}, {f, nil, 0, api.ErrEnd}, {formula(1, nil), nil, 0, api.OK},
		{f, []api.Step{add(5, []int{2}, 1, 2), {}}, 1, api.ErrArg}, {formula(-1), nil, -1, api.ErrArg},
	} {
		if at, e := lrat.Check(x.f, x.l); at != x.at || e != x.e {
			t.Errorf("%d: %d, %d", i, at, e)
		}
	}
}

// chance tells numbers that look like chance, always the same ones.
type chance uint64

func (c *chance) below(n int) int {
	*c = *c*6364136223846793005 + 1442695040888963407
	return int(uint64(*c)>>33) % n
}

// lits tells literals of three variables, in some order.
func (c *chance) lits() []int {
	var row []int
	for v := 1; v <= 3; v++ {
		if s := c.below(4); s < 2 {
			row = append(row, v*(1-2*s))
		}
	}
	if n := len(row); n > 1 && c.below(2) == 0 {
		row[0], row[n-1] = row[n-1], row[0]
	}
	return row
}

// somewhere tells whether all clauses of a checker hold with some truths.
func somewhere(c *lrat.Checker) bool {
	for m := range 8 {
		all := true
		for _, id := range c.Ids() {
			lits, _ := c.Clause(id)
			all = all && slices.ContainsFunc(lits, func(x int) bool { return (m>>max(x-1, -x-1)&1 == 1) == (x > 0) })
		}
		if all {
			return true
		}
	}
	return false
}

// TestSound: whatever steps are taken, a formula that holds somewhere still does.
func TestSound(t *testing.T) {
	var c chance
	taken := 0
	for range 4000 {
		f := formula(3)
		for range 1 + c.below(6) {
			f.Clauses = append(f.Clauses, c.lits())
		}
		k, e := lrat.New(f)
		if e != api.OK {
			t.Fatal(f, e)
		}
		held := somewhere(k)
		for range 12 {
			var hints []int
			for range c.below(5) {
				hints = append(hints, (1+c.below(9))*(1-2*(c.below(4)/3)))
			}
			s := add(k.Ids()[len(k.Ids())-1]+1+c.below(2), c.lits(), hints...)
			if c.below(5) == 0 && len(k.Ids()) > 1 {
				s = del(0, k.Ids()[c.below(len(k.Ids()))])
			}
			if k.Step(s) == api.OK {
				taken++
			}
			if held && (k.Done() || !somewhere(k)) {
				t.Fatal(f, s)
			}
			if !slices.IsSorted(k.Ids()) || len(slices.Compact(k.Ids())) != len(k.Ids()) {
				t.Fatal(k.Ids())
			}
		}
	}
	if taken < 3000 {
		t.Error("too few steps were taken:", taken)
	}
}

// TestLong: many clauses that come and go.
func TestLong(t *testing.T) {
	c, _ := lrat.New(formula(2, []int{1}))
	for id := 2; id < 20000; id++ {
		if c.Step(add(id, []int{1, 2}, 1)) != api.OK || c.Step(del(0, id)) != api.OK {
			t.Fatal(id)
		}
	}
	if c.Step(add(20001, []int{2})) != api.OK || !slices.Equal(c.Ids(), []int{1, 20001}) {
		t.Error(c.Ids())
	}
}
