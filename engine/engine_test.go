package engine_test

import (
	"math"
	"slices"
	"testing"

	"replevin/api"
	"replevin/cnf"
	"replevin/engine"
	"replevin/lrat"
	"replevin/units"
)

func formula(vars int, clauses ...[]int) api.Formula {
	return api.Formula{Vars: vars, Clauses: clauses}
}

var plain = api.Tune{Restart: 50, Keep: 100, Decay: 5}

func TestNone(t *testing.T) {
	for _, e := range []*engine.Engine{nil, {}} {
		e.Restart()
		m, ok := e.Model()
		if e.Propagate() || e.Resolve() || e.Decide() || e.Reduce() != 0 || e.Depth() != 0 || len(e.Lits()) > 0 || e.Conflicts() != 0 || e.Over() || len(e.Proof()) > 0 || len(m) > 0 || ok {
			t.Error("an engine that was not made does something")
		}
	}
}

func TestNew(t *testing.T) {
	for i, x := range []struct {
		f    api.Formula
		e    api.Errno
		over bool
	}{
		{formula(-1), api.ErrArg, false}, {formula(1, []int{2}), api.ErrLit, false}, {formula(1, []int{1, 1}), api.ErrDup, false}, {formula(1, []int{1, -1}), api.ErrClause, false},
		{formula(901), api.ErrBig, false}, {formula(901, []int{902}), api.ErrLit, false}, {formula(900, []int{900}), api.OK, false}, {formula(0), api.OK, false},
		{formula(0, nil), api.OK, true}, {formula(2, []int{1}, nil, []int{2}), api.OK, true}, {formula(2, []int{1}, []int{-1}), api.OK, false},
	} {
		e, err := engine.New(x.f, plain)
		if err != x.e || (e != nil) != (err == api.OK) || e.Over() != x.over || e.Depth() != 0 || len(e.Lits()) > 0 || len(e.Proof()) > 0 || e.Conflicts() != 0 {
			t.Errorf("%d: %d, %t", i, err, e.Over())
		}
	}
}

func TestOver(t *testing.T) {
	e, _ := engine.New(formula(2, nil, []int{1}), plain)
	if e.Propagate() || e.Resolve() || e.Decide() || e.Reduce() != 0 || len(e.Lits()) > 0 || e.Conflicts() != 0 {
		t.Error("it does something though it is over")
	}
	e, _ = engine.New(formula(1, []int{1}, []int{-1}), plain)
	if e.Resolve() || e.Decide() || !e.Propagate() || e.Over() || e.Decide() || !e.Propagate() || !e.Resolve() || !e.Over() || e.Conflicts() != 1 || e.Depth() != 0 {
		t.Error("it is not over")
	}
	p := e.Proof()
	if len(p) != 1 || p[0].Kind != api.StepAdd || p[0].Id != 3 || len(p[0].Lits) > 0 {
		t.Error(p)
	}
	if e.Propagate() || e.Resolve() || e.Decide() || e.Conflicts() != 1 || len(e.Proof()) != 1 {
		t.Error("it does something though it is over")
	}
	if _, ok := e.Model(); ok {
		t.Error("a model though it is over")
	}
}

func TestCalm(t *testing.T) {
	f := formula(3, []int{1, 2, 3})
	e, _ := engine.New(f, plain)
	if e.Decide() || e.Propagate() || !e.Decide() || e.Depth() != 1 || len(e.Lits()) != 1 || e.Decide() || e.Propagate() {
		t.Error("Decide is not calm")
	}
	if e.Resolve() || !e.Decide() {
		t.Error("a Resolve that does nothing is no end of calm")
	}
	e.Propagate()
	e.Restart()
	if e.Depth() != 0 || len(e.Lits()) > 0 || e.Decide() || e.Propagate() || !e.Decide() {
		t.Error("Restart")
	}
	for !e.Propagate() && e.Decide() {
	}
	m, ok := e.Model()
	if !ok || !cnf.Holds(f, m) || e.Decide() || e.Decide() || len(e.Lits()) != 3 {
		t.Error(m, ok)
	}
	m[0] = !m[0]
	if again, _ := e.Model(); again[0] == m[0] {
		t.Error("an engine shares memory with what it told")
	}
	f.Clauses[0][0] = -1
	if _, ok := e.Model(); !ok {
		t.Error("an engine keeps what it was given")
	}
	e.Lits()[0] = 7
	if slices.Contains(e.Lits(), 7) {
		t.Error("an engine shares memory with what it told")
	}
	e, _ = engine.New(formula(0), plain)
	if m, ok := e.Model(); !ok || len(m) > 0 || e.Propagate() || e.Decide() {
		t.Error("of no variables")
	}
}

func TestRestartEndsConflict(t *testing.T) {
	e, _ := engine.New(formula(1, []int{1}, []int{-1}), plain)
	e.Propagate()
	e.Restart()
	if e.Resolve() || e.Conflicts() != 0 || !e.Propagate() || !e.Resolve() || !e.Over() {
		t.Error("Restart is no end of a conflict")
	}
}

// chance tells numbers that look like chance, always the same ones.
type chance uint64

func (c *chance) below(n int) int {
	*c = *c*6364136223846793005 + 1442695040888963407
	return int(uint64(*c)>>33) % n
}

// some tells a formula of so many variables, its clauses having two or three literals, seldom fewer.
func (c *chance) some(vars, clauses int) api.Formula {
	f := formula(vars)
	for range clauses {
		var row []int
		n := 2 + c.below(2)
		if c.below(30) == 0 {
			n = 1
		}
		for len(row) < min(n, vars) {
			if v := 1 + c.below(vars); !slices.Contains(row, v) && !slices.Contains(row, -v) {
				row = append(row, v*(1-2*c.below(2)))
			}
		}
		f.Clauses = append(f.Clauses, row)
	}
	return f
}

func (c *chance) tune() api.Tune {
	some := []int{0, 1, -1, 7, 100, 1000, math.MaxInt, math.MinInt}
	return api.Tune{Restart: some[c.below(8)], Keep: some[c.below(8)], Decay: some[c.below(8)]}
}

// held is an engine, and what it is held against.
type held struct {
	t        *testing.T
	f        api.Formula
	e        *engine.Engine
	checker  *lrat.Checker
	conflict bool
	calm     bool
}

// clauses tells all clauses that there are.
func (h *held) clauses() [][]int {
	var out [][]int
	for _, id := range h.checker.Ids() {
		c, _ := h.checker.Clause(id)
		out = append(out, c)
	}
	return out
}

// take lets the checker take the steps behind the first n of the proof.
func (h *held) take(n int) []api.Step {
	p := h.e.Proof()
	for _, s := range p[n:] {
		if e := h.checker.Step(s); e != api.OK {
			h.t.Fatal(h.f, s, e)
		}
	}
	if h.checker.Done() != h.e.Over() {
		h.t.Fatal(h.f, "Done", h.checker.Done())
	}
	return p[n:]
}

func (h *held) propagate() {
	want, _, at := units.Propagate(h.clauses(), h.e.Lits())
	over, depth := h.e.Over(), h.e.Depth()
	got := h.e.Propagate()
	if over {
		if got {
			h.t.Fatal("a conflict though it is over")
		}
		return
	}
	if got != (at >= 0) || h.e.Depth() != depth {
		h.t.Fatal(h.f, got, at)
	}
	h.conflict, h.calm = got, !got
	l := h.e.Lits()
	slices.Sort(l)
	slices.Sort(want)
	if !got && !slices.Equal(l, want) {
		h.t.Fatal(h.f, l, want)
	}
}

func (h *held) resolve() {
	l, n, over := h.e.Lits(), h.e.Conflicts(), h.e.Over()
	steps := len(h.e.Proof())
	got := h.e.Resolve()
	if got != (h.conflict && !over) {
		h.t.Fatal(h.f, got)
	}
	if !got {
		if h.e.Conflicts() != n || len(h.e.Proof()) != steps || !slices.Equal(l, h.e.Lits()) {
			h.t.Fatal("a Resolve that tells false does something")
		}
		return
	}
	h.conflict, h.calm = false, false
	ids := h.checker.Ids()
	s := h.take(steps)
	if len(s) != 1 || s[0].Kind != api.StepAdd || s[0].Id <= ids[len(ids)-1] || h.e.Conflicts() != n+1 {
		h.t.Fatal(h.f, s)
	}
	for _, x := range s[0].Lits {
		if !slices.Contains(l, -x) {
			h.t.Fatal(h.f, l, s)
		}
	}
	if len(s[0].Lits) == 0 {
		return
	}
	now := h.e.Lits()
	var holds []int
	for _, x := range s[0].Lits {
		if slices.Contains(now, x) {
			holds = append(holds, x)
		} else if !slices.Contains(now, -x) {
			h.t.Fatal(h.f, now, s)
		}
	}
	if len(holds) != 1 || now[len(now)-1] != holds[0] || len(s[0].Lits) == 1 && h.e.Depth() > 0 {
		h.t.Fatal(h.f, now, s)
	}
}

func (h *held) decide() {
	l, depth := h.e.Lits(), h.e.Depth()
	want := h.calm && !h.e.Over() && len(l) < h.f.Vars
	got := h.e.Decide()
	if got != want {
		h.t.Fatal(h.f, got, want)
	}
	if !got {
		if !slices.Equal(l, h.e.Lits()) {
			h.t.Fatal("a Decide that tells false does something")
		}
		return
	}
	h.calm = false
	now := h.e.Lits()
	if h.e.Depth() != depth+1 || len(now) != len(l)+1 || !slices.Equal(now[:len(l)], l) {
		h.t.Fatal(h.f, now)
	}
}

func (h *held) reduce() {
	before, steps := len(h.checker.Ids())-len(h.f.Clauses), len(h.e.Proof())
	n := h.e.Reduce()
	s := h.take(steps)
	if n == 0 && len(s) > 0 || n > 0 && (before <= 100 || len(s) != 1 || s[0].Kind != api.StepDelete || len(s[0].Hints) != n) {
		h.t.Fatal(h.f, n, s)
	}
	for _, step := range s {
		for _, id := range step.Hints {
			if id <= len(h.f.Clauses) {
				h.t.Fatal("a clause of the formula is forgotten", id)
			}
		}
	}
}

func (h *held) model() {
	m, ok := h.e.Model()
	l := h.e.Lits()
	truths := make([]bool, h.f.Vars)
	for _, x := range l {
		truths[max(x, -x)-1] = x > 0
	}
	want := !h.conflict && !h.e.Over() && len(l) == h.f.Vars && cnf.Holds(h.f, truths)
	if ok != want || ok && !slices.Equal(m, truths) || !ok && len(m) > 0 {
		h.t.Fatal(h.f, m, ok)
	}
}

// TestShows makes calls in any order.
func TestShows(t *testing.T) {
	var c chance
	for range 600 {
		vars := 2 + c.below(14)
		f := c.some(vars, c.below(5*vars))
		h := &held{t: t, f: f}
		h.e, _ = engine.New(f, c.tune())
		h.checker, _ = lrat.New(f)
		lazy := c.below(2)
		for range 150 {
			switch k := c.below(20); {
			case k < 9:
				h.propagate()
			case k < 13:
				h.resolve()
			case k < 17:
				h.decide()
			case k < 18 && lazy > 0:
				h.reduce()
			case k < 19 && lazy > 0:
				h.e.Restart()
				h.conflict, h.calm = false, false
				if h.e.Depth() != 0 {
					t.Fatal(h.e.Depth())
				}
			}
			h.model()
		}
	}
}

// holds tells whether a formula holds with the truths that are the bits of m.
func holds(f api.Formula, m int) bool {
	return !slices.ContainsFunc(f.Clauses, func(c []int) bool {
		return !slices.ContainsFunc(c, func(x int) bool { return (m>>max(x-1, -x-1)&1 == 1) == (x > 0) })
	})
}

// TestAgrees lets searches go on to their end.
func TestAgrees(t *testing.T) {
	var c chance = 5
	over, found := 0, 0
	for range 1500 {
		vars := 3 + c.below(8)
		f := c.some(vars, 3*vars+c.below(2*vars))
		e, _ := engine.New(f, c.tune())
		checker, _ := lrat.New(f)
		for !e.Over() {
			if e.Propagate() {
				e.Resolve()
			} else if !e.Decide() {
				break
			}
		}
		for _, s := range e.Proof() {
			if err := checker.Step(s); err != api.OK {
				t.Fatal(f, s, err)
			}
		}
		m, ok := e.Model()
		if ok == e.Over() || checker.Done() != e.Over() || ok && !cnf.Holds(f, m) {
			t.Fatal(f, m, ok)
		}
		if e.Over() {
			over++
		} else {
			found++
		}
		e.Restart()
		for n := range 1 << vars {
			if !holds(f, n) {
				continue
			}
			if e.Over() {
				t.Fatal(f, n)
			}
			for _, x := range e.Lits() {
				if (n>>max(x-1, -x-1)&1 == 1) != (x > 0) {
					t.Fatal(f, n, x)
				}
			}
		}
	}
	if over < 300 || found < 300 {
		t.Error("too few of one kind:", over, found)
	}
}

// pigeons tells that each of some pigeons has a hole of its own, there being one hole less.
func pigeons(holes int) api.Formula {
	f := formula(holes * (holes + 1))
	at := func(p, h int) int { return p*holes + h + 1 }
	for p := range holes + 1 {
		var row []int
		for h := range holes {
			row = append(row, at(p, h))
			for q := range p {
				f.Clauses = append(f.Clauses, []int{-at(p, h), -at(q, h)})
			}
		}
		f.Clauses = append(f.Clauses, row)
	}
	return f
}

// TestForgets: long searches forget clauses, and their proofs are still right.
func TestForgets(t *testing.T) {
	f := pigeons(7)
	for _, keep := range []int{1, 2300} {
		e, _ := engine.New(f, api.Tune{Keep: keep, Decay: 5})
		gone, learnt := 0, 0
		for !e.Over() && e.Conflicts() < 5000 {
			if !e.Propagate() {
				e.Decide()
				continue
			}
			steps := -1
			if learnt%50 == 0 {
				steps = len(e.Proof())
			}
			n := e.Reduce()
			if n > 0 && learnt <= 100 || n == 0 && steps >= 0 && len(e.Proof()) != steps {
				t.Fatal(n, learnt)
			}
			gone += n
			learnt -= n
			e.Resolve()
			learnt++
		}
		c, _ := lrat.New(f)
		for i, s := range e.Proof() {
			if err := c.Step(s); err != api.OK {
				t.Fatal(keep, i, err)
			}
			if s.Kind == api.StepDelete {
				gone -= len(s.Hints)
			}
		}
		if gone != 0 || c.Done() != e.Over() {
			t.Error(keep, gone, c.Done())
		}
	}
}

func TestProof(t *testing.T) {
	e, _ := engine.New(formula(2, []int{1, 2}, []int{-1, 2}, []int{1, -2}, []int{-1, -2}), plain)
	for !e.Over() {
		if e.Propagate() {
			e.Resolve()
		} else {
			e.Decide()
		}
	}
	p := e.Proof()
	p[0].Lits[0], p[0].Hints[0], p[1].Kind = 77, 77, 9
	if q := e.Proof(); q[0].Lits[0] == 77 || q[0].Hints[0] == 77 || q[1].Kind == 9 {
		t.Error("an engine shares memory with what it told")
	}
}
