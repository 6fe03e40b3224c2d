package clause_test

import (
	"math"
	"slices"
	"testing"

	"replevin/api"
	"replevin/clause"
	"replevin/lit"
)

const big = api.MaxVars + 1

// row tells the literals 1, 2 and so on.
func row(n int) []int {
	l := make([]int, n)
	for i := range l {
		l[i] = i + 1
	}
	return l
}

// small tells all rows of at most three numbers from -2 to 2, some of which are no clauses.
func small() [][]int {
	all := [][]int{nil}
	for i := 0; i < len(all); i++ {
		for n := -2; n <= 2 && len(all[i]) < 3; n++ {
			all = append(all, append(slices.Clone(all[i]), n))
		}
	}
	return all
}

// holds tells whether a clause holds with truths of two variables.
func holds(c []int, m [2]bool) bool {
	for _, l := range c {
		if l != 0 && m[lit.Var(l)-1] == (l > 0) {
			return true
		}
	}
	return false
}

func truths() [][2]bool {
	return [][2]bool{{false, false}, {true, false}, {false, true}, {true, true}}
}

func TestCheck(t *testing.T) {
	twice := append(row(999), 1)
	long := append(row(1000), 0)
	for i, x := range []struct {
		c    []int
		vars int
		want api.Errno
	}{
		{nil, 0, api.OK}, {nil, -1, api.ErrArg}, {nil, big, api.ErrArg}, {nil, api.MaxVars, api.OK},
		{[]int{1, -2, 3}, 3, api.OK}, {[]int{1, -2, 3}, 2, api.ErrLit}, {[]int{1, 0}, 2, api.ErrLit},
		{[]int{1, -1}, 1, api.OK}, {[]int{1, 2, 1}, 2, api.ErrDup}, {[]int{-2, -2}, 2, api.ErrDup},
		{[]int{1, 1, 3}, 2, api.ErrLit}, {[]int{math.MinInt}, 2, api.ErrLit},
		{row(1000), 1000, api.OK}, {row(1001), 1001, api.ErrBig}, {twice, 1000, api.ErrDup},
		{long, 1000, api.ErrBig}, {long, -1, api.ErrArg},
	} {
		if got := clause.Check(x.c, x.vars); got != x.want {
			t.Errorf("%d: %d, not %d", i, got, x.want)
		}
	}
}

func TestNorm(t *testing.T) {
	for _, x := range []struct{ c, want []int }{
		{nil, nil}, {[]int{0, big, -big, math.MinInt, math.MaxInt}, nil},
		{[]int{3, -1, 2, 1, -3, 2}, []int{1, -1, 2, 3, -3}},
		{[]int{-2, 0, 2, -2, 1}, []int{1, 2, -2}},
		{[]int{-api.MaxVars, api.MaxVars, 1}, []int{1, api.MaxVars, -api.MaxVars}},
	} {
		was := slices.Clone(x.c)
		if got := clause.Norm(x.c); !slices.Equal(got, x.want) {
			t.Errorf("Norm(%v) = %v, not %v", x.c, got, x.want)
		}
		if !slices.Equal(was, x.c) {
			t.Errorf("%v was changed to %v", was, x.c)
		}
	}
	c := []int{1, 2}
	clause.Norm(c)[0] = 9
	if c[0] != 1 {
		t.Error("Norm shares memory with what it was given")
	}
}

func TestHasAndTaut(t *testing.T) {
	c := []int{1, -2, 0, big, math.MinInt}
	for _, x := range []struct {
		lit  int
		want bool
	}{{1, true}, {-1, false}, {-2, true}, {2, false}, {0, false}, {big, false}, {math.MinInt, false}, {3, false}} {
		if clause.Has(c, x.lit) != x.want {
			t.Errorf("Has %d is not %t", x.lit, x.want)
		}
	}
	for _, x := range []struct {
		c    []int
		want bool
	}{
		{nil, false}, {[]int{1, 2, 3}, false}, {[]int{1, 2, -1}, true}, {[]int{-7, 7}, true}, {[]int{0, 0}, false},
		{[]int{big, -big}, false}, {[]int{1, 1}, false}, {[]int{math.MinInt, math.MinInt}, false},
	} {
		if clause.Taut(x.c) != x.want {
			t.Errorf("Taut(%v) is not %t", x.c, x.want)
		}
	}
}

func TestSubset(t *testing.T) {
	for _, x := range []struct {
		a, b []int
		sub  bool
		same bool
	}{
		{nil, nil, true, true}, {nil, []int{1}, true, false}, {[]int{1}, nil, false, false},
		{[]int{1, 2}, []int{2, 3, 1}, true, false}, {[]int{2, 1, 1}, []int{1, 2}, true, true},
		{[]int{1}, []int{-1}, false, false}, {[]int{0, big, 1}, []int{1}, true, true}, {[]int{1}, []int{1, 0}, true, true},
		{[]int{1, 2}, []int{1, 3}, false, false},
	} {
		if clause.Subset(x.a, x.b) != x.sub || clause.Same(x.a, x.b) != x.same {
			t.Errorf("%v and %v: %t, %t", x.a, x.b, clause.Subset(x.a, x.b), clause.Same(x.a, x.b))
		}
	}
}

func TestWithout(t *testing.T) {
	for _, x := range []struct {
		c    []int
		lit  int
		want []int
	}{
		{[]int{3, 1, -2, 3}, 3, []int{1, -2}}, {[]int{3, 1, 3}, -3, []int{1, 3}}, {[]int{2, 0, 1}, 0, []int{1, 2}},
		{nil, 1, nil}, {[]int{1}, 1, nil}, {[]int{2, 1}, big, []int{1, 2}},
	} {
		if got := clause.Without(x.c, x.lit); !slices.Equal(got, x.want) {
			t.Errorf("Without(%v, %d) = %v, not %v", x.c, x.lit, got, x.want)
		}
	}
}

func TestResolve(t *testing.T) {
	for _, x := range []struct {
		a, b []int
		lit  int
		want []int
		e    api.Errno
	}{
		{[]int{1, 2}, []int{-2, 3}, 2, []int{1, 3}, api.OK},
		{[]int{3, -2}, []int{2, 1, 3}, -2, []int{1, 3}, api.OK},
		{[]int{1}, []int{-1}, 1, nil, api.OK},
		{[]int{1, 2}, []int{-2, -1}, 2, []int{1, -1}, api.OK},
		{[]int{2, -2}, []int{-2, 2}, 2, []int{2, -2}, api.OK},
		{[]int{1, 2}, []int{-2, 3}, -2, nil, api.ErrClause},
		{[]int{1}, []int{-2}, 2, nil, api.ErrClause}, {[]int{2}, []int{1}, 2, nil, api.ErrClause},
		{[]int{0}, []int{0}, 0, nil, api.ErrLit}, {[]int{big}, []int{-big}, big, nil, api.ErrLit},
		{[]int{1, 0, 2, big}, []int{-2, 0}, 2, []int{1}, api.OK},
	} {
		got, e := clause.Resolve(x.a, x.b, x.lit)
		if !slices.Equal(got, x.want) || e != x.e {
			t.Errorf("Resolve(%v, %v, %d) = %v, %d", x.a, x.b, x.lit, got, e)
		}
	}
}

func TestOneForm(t *testing.T) {
	for _, a := range small() {
		n := clause.Norm(a)
		if !clause.Same(a, n) || !slices.Equal(clause.Norm(n), n) {
			t.Fatalf("one form of %v: %v", a, n)
		}
		for _, b := range small() {
			if clause.Same(a, b) != slices.Equal(n, clause.Norm(b)) {
				t.Fatalf("%v and %v", a, b)
			}
		}
	}
}

func TestHolds(t *testing.T) {
	for _, m := range truths() {
		for _, a := range small() {
			if clause.Taut(a) && !holds(a, m) {
				t.Fatalf("%v does not hold with %v", a, m)
			}
			for _, b := range small() {
				if clause.Subset(a, b) && holds(a, m) && !holds(b, m) {
					t.Fatalf("%v in %v with %v", a, b, m)
				}
				for _, l := range []int{1, -2} {
					r, e := clause.Resolve(a, b, l)
					if e == api.OK && holds(a, m) && holds(b, m) && !holds(r, m) {
						t.Fatalf("%v of %v and %v by %d with %v", r, a, b, l, m)
					}
				}
			}
		}
	}
}
