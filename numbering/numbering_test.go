package numbering_test

import (
	"math"
	"testing"

	"replevin/api"
	"replevin/numbering"
)

func size(ops, states int) numbering.Size { return numbering.Size{Ops: ops, States: states} }

func name(kind, a, b int) numbering.Name { return numbering.Name{Kind: kind, A: a, B: b} }

func TestCheckAndVars(t *testing.T) {
	for i, x := range []struct {
		s    numbering.Size
		e    api.Errno
		vars int
	}{
		{size(0, 1), api.OK, 1}, {size(2, 3), api.OK, 15}, {size(64, 32), api.OK, 6240}, {size(1, 1), api.OK, 4}, {size(0, 32), api.OK, 32}, {size(28, 3), api.OK, 899},
		{size(-1, 1), api.ErrArg, 0}, {size(65, 1), api.ErrArg, 0}, {size(0, 0), api.ErrArg, 0}, {size(0, 33), api.ErrArg, 0}, {size(0, -1), api.ErrArg, 0}, {size(math.MaxInt, math.MinInt), api.ErrArg, 0},
	} {
		if e := numbering.Check(x.s); e != x.e || numbering.Vars(x.s) != x.vars {
			t.Errorf("%d: %d, %d", i, e, numbering.Vars(x.s))
		}
	}
}

func TestVar(t *testing.T) {
	s := size(2, 3)
	for n, want := range map[numbering.Name]int{
		name(1, 0, 0): 1, name(1, 0, 1): 2, name(1, 1, 0): 3, name(1, 1, 1): 4, name(2, 0, 0): 5, name(2, 1, 0): 6, name(3, 0, 0): 7, name(3, 0, 2): 9, name(3, 1, 0): 10, name(3, 2, 2): 15,
		name(0, 0, 0): 0, name(4, 0, 0): 0, name(1, 2, 0): 0, name(1, 0, 2): 0, name(1, -1, 0): 0, name(1, 0, -1): 0, name(2, 2, 0): 0, name(2, 0, 1): 0, name(2, 1, -1): 0, name(2, -1, 1): 0, name(3, 3, 0): 0, name(3, 0, 3): 0, name(3, -1, 3): 0, name(3, 2, -1): 0,
		name(1, math.MaxInt, 0): 0, name(1, 0, math.MinInt): 0, name(math.MaxInt, 0, 0): 0, name(math.MinInt, 0, 0): 0, name(-1, 0, 0): 0, name(1, math.MinInt, math.MaxInt): 0,
	} {
		if got := numbering.Var(s, n); got != want {
			t.Errorf("%v: %d, not %d", n, got, want)
		}
	}
	if numbering.Var(size(65, 1), name(1, 0, 0)) != 0 || numbering.Var(size(0, 0), name(3, 0, 0)) != 0 || numbering.Var(size(0, 2), name(1, 0, 0)) != 0 || numbering.Var(size(0, 2), name(3, 0, 1)) != 2 {
		t.Error("of other sizes")
	}
	if numbering.Place != 1 || numbering.In != 2 || numbering.State != 3 {
		t.Error("the kinds have other numbers")
	}
}

// TestOrder goes through all variables: their names are in order, and come back.
func TestOrder(t *testing.T) {
	for _, s := range []numbering.Size{size(0, 1), size(0, 5), size(1, 1), size(2, 3), size(7, 4), size(64, 32)} {
		seen := map[numbering.Name]bool{}
		var last numbering.Name
		for v := 1; v <= numbering.Vars(s); v++ {
			n, ok := numbering.Of(s, v)
			if !ok || seen[n] || numbering.Var(s, n) != v {
				t.Fatal(s, v, n, ok)
			}
			rises := n.Kind > last.Kind || n.Kind == last.Kind && (n.A > last.A || n.A == last.A && n.B > last.B)
			if !rises {
				t.Fatal(s, last, n)
			}
			seen[n], last = true, n
		}
		for _, v := range []int{0, -1, numbering.Vars(s) + 1, math.MaxInt, math.MinInt} {
			if n, ok := numbering.Of(s, v); ok || n != (numbering.Name{}) {
				t.Error(s, v, n)
			}
		}
	}
	if n, ok := numbering.Of(size(65, 1), 1); ok || n != (numbering.Name{}) {
		t.Error(n)
	}
}
