package lit_test

import (
	"math"
	"testing"

	"replevin/api"
	"replevin/lit"
)

// odd are numbers that are no literals.
var odd = []int{0, api.MaxVars + 1, -api.MaxVars - 1, math.MaxInt, math.MinInt, math.MinInt + 1}

func TestCheck(t *testing.T) {
	for _, x := range []struct {
		lit, vars int
		want      api.Errno
	}{
		{1, 1, api.OK}, {-1, 1, api.OK}, {2, 1, api.ErrLit}, {-2, 1, api.ErrLit}, {0, 5, api.ErrLit},
		{1, 0, api.ErrLit}, {0, 0, api.ErrLit}, {1, -1, api.ErrArg}, {0, -1, api.ErrArg},
		{api.MaxVars, api.MaxVars, api.OK}, {-api.MaxVars, api.MaxVars, api.OK},
		{api.MaxVars + 1, api.MaxVars, api.ErrLit}, {1, api.MaxVars + 1, api.ErrArg},
		{math.MinInt, 7, api.ErrLit}, {math.MaxInt, 7, api.ErrLit},
		{1, math.MaxInt, api.ErrArg}, {1, math.MinInt, api.ErrArg},
	} {
		if got := lit.Check(x.lit, x.vars); got != x.want {
			t.Errorf("Check(%d, %d) = %d, not %d", x.lit, x.vars, got, x.want)
		}
	}
}

func TestVarAndNeg(t *testing.T) {
	for _, l := range []int{1, 2, 77, api.MaxVars} {
		if lit.Var(l) != l || lit.Var(-l) != l {
			t.Errorf("Var of %d: %d, %d", l, lit.Var(l), lit.Var(-l))
		}
		if lit.Neg(l) != -l || lit.Neg(-l) != l {
			t.Errorf("Neg of %d: %d, %d", l, lit.Neg(l), lit.Neg(-l))
		}
	}
	for _, n := range odd {
		if lit.Var(n) != 0 || lit.Neg(n) != 0 || lit.Index(n) != -1 {
			t.Errorf("of %d: %d, %d, %d", n, lit.Var(n), lit.Neg(n), lit.Index(n))
		}
	}
}

func TestMake(t *testing.T) {
	for _, v := range []int{1, 9, api.MaxVars} {
		yes, e := lit.Make(v, true)
		no, f := lit.Make(v, false)
		if yes != v || no != -v || e != api.OK || f != api.OK {
			t.Errorf("Make of %d: %d, %d", v, yes, no)
		}
	}
	for _, v := range append([]int{-1, -api.MaxVars}, odd...) {
		for _, truth := range []bool{true, false} {
			if l, e := lit.Make(v, truth); l != 0 || e != api.ErrLit {
				t.Errorf("Make(%d, %t) = %d, %d", v, truth, l, e)
			}
		}
	}
}

func TestIndex(t *testing.T) {
	for l, want := range map[int]int{1: 0, -1: 1, 2: 2, -2: 3, 3: 4, -3: 5, api.MaxVars: 199998, -api.MaxVars: 199999} {
		if lit.Index(l) != want || lit.From(want) != l {
			t.Errorf("index of %d: %d; literal of %d: %d", l, lit.Index(l), want, lit.From(want))
		}
	}
	for _, i := range []int{-1, -2, 2 * api.MaxVars, 2*api.MaxVars + 1, math.MaxInt, math.MinInt} {
		if lit.From(i) != 0 {
			t.Errorf("From(%d) = %d", i, lit.From(i))
		}
	}
}

func TestBack(t *testing.T) {
	for i := 0; i < 2*api.MaxVars; i++ {
		l := lit.From(i)
		if lit.Index(l) != i {
			t.Fatalf("index %d came back as %d", i, lit.Index(l))
		}
		if back, e := lit.Make(lit.Var(l), l > 0); back != l || e != api.OK {
			t.Fatalf("literal %d came back as %d", l, back)
		}
		n := lit.Neg(l)
		d := lit.Index(n) - i
		if lit.Neg(n) != l || lit.Var(n) != lit.Var(l) || d*d != 1 {
			t.Fatalf("opposite of %d: %d", l, n)
		}
	}
}

func TestOf(t *testing.T) {
	l := []int{4, -2, 3, -3, 0, 4, -api.MaxVars, api.MaxVars + 1, math.MinInt}
	for v, want := range map[int]int{4: 1, 2: -1, 3: 2, 1: 0, api.MaxVars: -1, 0: 0, -3: 0, -2: 0, -4: 0, api.MaxVars + 1: 0, math.MinInt: 0} {
		if got := lit.Of(l, v); got != want {
			t.Errorf("Of %d: %d, not %d", v, got, want)
		}
	}
	if lit.Of(nil, 1) != 0 || lit.Of([]int{1}, 1) != 1 || lit.Of([]int{-3, 3}, 3) != 2 {
		t.Error("Of none, or of both, the opposite first")
	}
}

func TestMost(t *testing.T) {
	for _, x := range []struct {
		lits []int
		want int
	}{
		{nil, 0}, {odd, 0}, {[]int{1}, 1}, {[]int{-5, 2}, 5}, {[]int{2, -5, 3}, 5},
		{[]int{3, api.MaxVars + 1, -2}, 3}, {[]int{-api.MaxVars, 1}, api.MaxVars},
	} {
		if got := lit.Most(x.lits); got != x.want {
			t.Errorf("Most(%v) = %d, not %d", x.lits, got, x.want)
		}
	}
}
