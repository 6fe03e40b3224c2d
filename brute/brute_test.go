package brute_test

import (
	"math"
	"slices"
	"testing"

	"replevin/api"
	"replevin/brute"
	"replevin/cnf"
)

func formula(vars int, clauses ...[]int) api.Formula {
	return api.Formula{Vars: vars, Clauses: clauses}
}

// bad are formulas with their errors.
var bad = []struct {
	f api.Formula
	e api.Errno
}{
	{formula(-1), api.ErrArg}, {formula(17), api.ErrBig}, {formula(17, []int{18}), api.ErrLit}, {formula(2, []int{3}), api.ErrLit},
	{formula(2, []int{1, 1}), api.ErrDup}, {formula(2, []int{1, -1}), api.ErrClause}, {formula(math.MaxInt), api.ErrArg},
}

func TestErrors(t *testing.T) {
	good := formula(2, []int{1})
	for i, x := range bad {
		if n, e := brute.Count(x.f); n != 0 || e != x.e {
			t.Errorf("%d: Count %d, %d", i, n, e)
		}
		for range brute.All(x.f) {
			t.Errorf("%d: a model", i)
		}
		m, ok := brute.First(x.f)
		n, ok2 := brute.Nth(x.f, 0)
		if len(m) > 0 || ok || len(n) > 0 || ok2 {
			t.Errorf("%d: a model", i)
		}
		if ok, e := brute.Follows(x.f, []int{99}); ok || e != x.e {
			t.Errorf("%d: Follows %d", i, e)
		}
		if ok, e := brute.Equal(x.f, formula(-1)); ok || e != x.e {
			t.Errorf("%d: Equal %d", i, e)
		}
		if ok, e := brute.Equal(good, x.f); ok || e != x.e {
			t.Errorf("%d: Equal %d", i, e)
		}
	}
	for i, x := range []struct {
		c []int
		e api.Errno
	}{{[]int{3}, api.ErrLit}, {[]int{0}, api.ErrLit}, {[]int{1, 1}, api.ErrDup}, {make([]int, 1001), api.ErrBig}} {
		if ok, e := brute.Follows(good, x.c); ok || e != x.e {
			t.Errorf("%d: Follows %d", i, e)
		}
	}
	if ok, e := brute.Equal(good, formula(3, []int{1})); ok || e != api.ErrArg {
		t.Error(ok, e)
	}
}

func TestOrder(t *testing.T) {
	f := formula(2, []int{1, 2})
	want := [][]bool{{true, false}, {false, true}, {true, true}}
	got := slices.Collect(brute.All(f))
	if !slices.EqualFunc(got, want, slices.Equal[[]bool]) {
		t.Error(got)
	}
	for n, m := range want {
		if x, ok := brute.Nth(f, n); !ok || !slices.Equal(x, m) {
			t.Error(n, x)
		}
	}
	for _, n := range []int{-1, 3, math.MaxInt, math.MinInt} {
		if x, ok := brute.Nth(f, n); ok || len(x) > 0 {
			t.Error(n, x)
		}
	}
	if m, ok := brute.First(f); !ok || !slices.Equal(m, want[0]) {
		t.Error(m, ok)
	}
	if n, e := brute.Count(f); n != 3 || e != api.OK {
		t.Error(n, e)
	}
	for i, x := range []struct {
		f api.Formula
		n int
	}{{formula(0), 1}, {formula(0, nil), 0}, {formula(16), 65536}, {formula(16, []int{16}), 32768}, {formula(3, []int{1}, []int{-1}), 0}, {formula(1), 2}} {
		n, e := brute.Count(x.f)
		_, ok := brute.First(x.f)
		if n != x.n || e != api.OK || ok != (n > 0) {
			t.Errorf("%d: %d, %d", i, n, e)
		}
	}
	if m, ok := brute.First(formula(0)); !ok || len(m) != 0 {
		t.Error(m, ok)
	}
}

// TestStops: no more is told when no more is asked for; each time it begins anew; each list is its own.
func TestStops(t *testing.T) {
	f := formula(3, []int{1, 2})
	all := brute.All(f)
	for range 2 {
		n := 0
		for m := range all {
			if !m[0] && !m[1] {
				t.Error("no model", m)
			}
			m[0] = !m[0]
			if n++; n == 4 {
				break
			}
		}
		if n != 4 {
			t.Error(n)
		}
	}
	told := 0
	all(func([]bool) bool { told++; return false })
	if told != 1 {
		t.Error("it goes on though no more is asked for:", told)
	}
}

func TestFollows(t *testing.T) {
	f := formula(3, []int{1, 2}, []int{-1, 2}, []int{-2, 3})
	for i, x := range []struct {
		c    []int
		want bool
	}{{[]int{2}, true}, {[]int{3}, true}, {[]int{1}, false}, {[]int{-1}, false}, {nil, false}, {[]int{1, -1}, true}, {[]int{-3, 2}, true}, {[]int{-2, -3}, false}} {
		if ok, e := brute.Follows(f, x.c); ok != x.want || e != api.OK {
			t.Errorf("%d: %t, %d", i, ok, e)
		}
	}
	if ok, e := brute.Follows(formula(1, nil), nil); !ok || e != api.OK {
		t.Error("of what never holds all follows")
	}
}

func TestEqual(t *testing.T) {
	a := formula(3, []int{1, 2}, []int{-1, 2})
	for i, x := range []struct {
		b    api.Formula
		want bool
	}{{formula(3, []int{2}), true}, {formula(3, []int{2}, []int{2, 3}), true}, {formula(3, []int{2, 3}), false}, {formula(3, []int{1}), false}, {formula(3), false}} {
		if ok, e := brute.Equal(a, x.b); ok != x.want || e != api.OK {
			t.Errorf("%d: %t, %d", i, ok, e)
		}
		if ok, _ := brute.Equal(x.b, a); ok != x.want {
			t.Errorf("%d: the other way round %t", i, ok)
		}
	}
}

// chance tells numbers that look like chance, always the same ones.
type chance uint64

func (c *chance) below(n int) int {
	*c = *c*6364136223846793005 + 1442695040888963407
	return int(uint64(*c)>>33) % n
}

func TestCounts(t *testing.T) {
	var c chance
	for range 500 {
		f := formula(1 + c.below(6))
		for range c.below(8) {
			var row []int
			for v := 1; v <= f.Vars; v++ {
				if s := c.below(4); s < 2 {
					row = append(row, v*(1-2*s))
				}
			}
			f.Clauses = append(f.Clauses, row)
		}
		n, e := brute.Count(f)
		last, seen := -1, 0
		for m := range brute.All(f) {
			bits := 0
			for v, truth := range m {
				if truth {
					bits |= 1 << v
				}
			}
			if bits <= last || len(m) != f.Vars || !cnf.Holds(f, m) {
				t.Fatal(f, m)
			}
			last = bits
			seen++
		}
		all := 0
		for bits := range 1 << f.Vars {
			m := make([]bool, f.Vars)
			for v := range m {
				m[v] = bits>>v&1 == 1
			}
			if cnf.Holds(f, m) {
				all++
			}
		}
		if n != seen || n != all || e != api.OK {
			t.Fatal(f, n, seen, all)
		}
		v := 1 + c.below(f.Vars)
		yes, _ := brute.Count(cnf.With(f, []int{v}))
		no, _ := brute.Count(cnf.With(f, []int{-v}))
		if yes+no != n {
			t.Fatal(f, v, yes, no, n)
		}
		if ok, _ := brute.Follows(f, []int{v}); ok != (no == 0) {
			t.Fatal(f, v)
		}
	}
}
