package cnf_test

import (
	"math"
	"slices"
	"testing"

	"replevin/api"
	"replevin/assign"
	"replevin/cnf"
)

const big = api.MaxVars + 1

func formula(vars int, clauses ...[]int) api.Formula {
	return api.Formula{Vars: vars, Clauses: clauses}
}

func TestCheck(t *testing.T) {
	wide := make([]int, 1001)
	for i := range wide {
		wide[i] = i + 1
	}
	for i, x := range []struct {
		f  api.Formula
		at int
		e  api.Errno
	}{
		{formula(0), 0, api.OK}, {formula(-1), 0, api.ErrArg}, {formula(big), 0, api.ErrArg},
		{formula(api.MaxVars, []int{api.MaxVars}), 1, api.OK},
		{formula(2, []int{1, -2}, nil, []int{2}), 3, api.OK},
		{formula(2, []int{1}, []int{3}), 1, api.ErrLit}, {formula(2, []int{1}, []int{0}), 1, api.ErrLit},
		{formula(2, []int{1, 1}, []int{3}), 0, api.ErrDup}, {formula(2, []int{1}, []int{2, -2}, []int{3}), 1, api.ErrClause},
		{formula(2, []int{2, -2, 2}), 0, api.ErrDup}, {formula(2, []int{2, -2, 3}), 0, api.ErrLit},
		{formula(-1, []int{9}), 0, api.ErrArg},
		{formula(2000, nil, wide[:1000]), 2, api.OK}, {formula(2000, nil, wide), 1, api.ErrBig},
	} {
		if at, e := cnf.Check(x.f); at != x.at || e != x.e {
			t.Errorf("%d: %d, %d", i, at, e)
		}
	}
	many := formula(1, make([][]int, api.MaxClauses)...)
	if at, e := cnf.Check(many); at != api.MaxClauses || e != api.OK {
		t.Error(at, e)
	}
	many.Clauses = append(many.Clauses, []int{7})
	if at, e := cnf.Check(many); at != 0 || e != api.ErrBig {
		t.Error(at, e)
	}
}

func TestHolds(t *testing.T) {
	f := formula(3, []int{1, 2}, []int{-1, 3}, []int{-2, -3})
	for i, x := range []struct {
		f     api.Formula
		m     []bool
		first int
		holds bool
	}{
		{f, []bool{true, false, true}, -1, true}, {f, []bool{false, true, false}, -1, true},
		{f, []bool{false, false, false}, 0, false}, {f, []bool{true, false, false}, 1, false},
		{f, []bool{true, true, true}, 2, false}, {f, []bool{true, false}, 1, false}, {f, nil, 0, false},
		{f, []bool{false, true}, -1, false}, {f, []bool{false, true, false, true}, -1, false},
		{formula(0), nil, -1, true}, {formula(1), nil, -1, false}, {formula(0, nil), nil, 0, false},
		{formula(1, []int{0, big, math.MinInt}), []bool{true}, 0, false},
		{formula(1, []int{-9}), []bool{true}, -1, true}, {formula(1, []int{-1}, []int{9}), []bool{false}, 1, false},
	} {
		if got := cnf.First(x.f, x.m); got != x.first {
			t.Errorf("%d: First %d, not %d", i, got, x.first)
		}
		if got := cnf.Holds(x.f, x.m); got != x.holds {
			t.Errorf("%d: Holds %t", i, got)
		}
	}
}

func TestStatus(t *testing.T) {
	f := formula(3, []int{1, 2}, []int{-1, 3}, []int{-2, -3})
	long := cnf.With(f, []int{1, 2, 3}, []int{-1, -2})
	for i, x := range []struct {
		f    api.Formula
		l    []int
		want int
	}{
		{f, nil, 0}, {f, []int{1}, 0}, {f, []int{1, 3}, 0}, {f, []int{1, 3, -2}, 1}, {f, []int{-1, -2}, -1},
		{f, []int{2, 3}, -1}, {formula(0), nil, 1}, {formula(0, nil), nil, -1}, {formula(1, []int{1}, nil), nil, -1},
		{long, []int{1, 3, -2}, 1}, {long, []int{2, -1}, 0}, {long, []int{2, 3}, -1}, {long, nil, 0}, {long, []int{1, 2}, -1},
	} {
		if got := cnf.Status(x.f, x.l); got != x.want {
			t.Errorf("%d: %d, not %d", i, got, x.want)
		}
	}
}

func TestBalance(t *testing.T) {
	f := formula(4, []int{1, 2}, []int{-1, 2}, []int{-4, 0, big}, []int{1, 1}, []int{9, api.MaxVars})
	for v, want := range map[int][2]int{1: {3, 1}, api.MaxVars: {1, 0}, 2: {2, 0}, 3: {0, 0}, 4: {0, 1}, 9: {1, 0}, 0: {}, -1: {}, big: {}, math.MinInt: {}} {
		if yes, no := cnf.Balance(f, v); yes != want[0] || no != want[1] {
			t.Errorf("Balance of %d: %d, %d", v, yes, no)
		}
	}
}

func TestPure(t *testing.T) {
	for i, x := range []struct {
		f    api.Formula
		want []int
	}{
		{formula(2, []int{1, 2}, []int{-1, 2}), []int{2}}, {formula(2, []int{-1, 2}, []int{-2}), []int{-1}},
		{formula(4, []int{4, -3}, []int{-3, 1}, []int{-1}), []int{-3, 4}},
		{formula(3, []int{4, -3}), []int{-3}}, {formula(0, []int{1}), nil}, {formula(-5, []int{1}), nil},
		{formula(math.MaxInt, []int{-api.MaxVars, 0, big}), []int{-api.MaxVars}}, {formula(9), nil},
	} {
		if got := cnf.Pure(x.f); !slices.Equal(got, x.want) {
			t.Errorf("%d: %v, not %v", i, got, x.want)
		}
	}
}

func TestSizeAndSame(t *testing.T) {
	f := formula(3, []int{1, 2}, nil, []int{-3})
	if cnf.Size(f) != 3 || cnf.Size(formula(3)) != 0 {
		t.Error(cnf.Size(f))
	}
	for i, x := range []struct {
		g    api.Formula
		want bool
	}{
		{formula(3, []int{1, 2}, []int{}, []int{-3}), true}, {formula(4, []int{1, 2}, nil, []int{-3}), false},
		{formula(3, []int{2, 1}, nil, []int{-3}), false}, {formula(3, []int{1, 2}, nil), false},
		{formula(3, []int{1, 2}, nil, []int{3}), false}, {formula(3, []int{1, 2}, []int{-3}, nil), false},
	} {
		if cnf.Same(f, x.g) != x.want || cnf.Same(x.g, f) != x.want {
			t.Errorf("%d: not %t", i, x.want)
		}
	}
}

func TestWith(t *testing.T) {
	f := formula(2, []int{1, 2})
	f.Clauses = append(make([][]int, 0, 9), f.Clauses...)
	more := []int{-5, 1}
	g := cnf.With(f, more, nil, []int{2})
	if !cnf.Same(g, formula(5, []int{1, 2}, []int{-5, 1}, nil, []int{2})) {
		t.Error(g)
	}
	g.Clauses[0][0], g.Clauses[1][0] = 7, 7
	if f.Clauses[0][0] != 1 || more[0] != -5 || f.Clauses[:2][1] != nil {
		t.Error("With shares memory with what it was given")
	}
	for i, x := range []struct {
		f    api.Formula
		more [][]int
		vars int
	}{{f, nil, 2}, {f, [][]int{{1}}, 2}, {formula(-3), nil, 0}, {formula(-3), [][]int{{0, big}}, 0}, {formula(9), [][]int{{-8}}, 9}} {
		if g := cnf.With(x.f, x.more...); g.Vars != x.vars || len(g.Clauses) != len(x.f.Clauses)+len(x.more) {
			t.Errorf("%d: %v", i, g)
		}
	}
}

// some tells formulas of three variables.
func some() []api.Formula {
	var out []api.Formula
	for n := 1; n < 3000; n += 7 {
		var f api.Formula
		f.Vars = 3
		for k := n; k > 0; k /= 27 {
			var c []int
			for v, d := 1, k%27; v <= 3; v, d = v+1, d/3 {
				if d%3 > 0 {
					c = append(c, v*(3-2*(d%3)))
				}
			}
			f.Clauses = append(f.Clauses, c)
		}
		out = append(out, f)
	}
	return out
}

func truths(n int) []bool { return []bool{n&1 > 0, n&2 > 0, n&4 > 0} }

func TestFollows(t *testing.T) {
	for _, f := range some() {
		if _, e := cnf.Check(f); e != api.OK {
			t.Fatal(f, e)
		}
		for n := range 8 {
			m := truths(n)
			holds := cnf.Holds(f, m)
			if holds != (cnf.Status(f, assign.From(m)) == 1) {
				t.Fatal(f, m)
			}
			if cnf.Holds(cnf.With(f, []int{1, -2}), m) && !holds {
				t.Fatal(f, m)
			}
			for _, l := range cnf.Pure(f) {
				flipped := slices.Clone(m)
				flipped[max(l, -l)-1] = l > 0
				if holds && !cnf.Holds(f, flipped) {
					t.Fatal(f, m, l)
				}
			}
		}
	}
}
