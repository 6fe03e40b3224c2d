package trail_test

import (
	"math"
	"slices"
	"testing"

	"replevin/api"
	"replevin/assign"
	"replevin/trail"
)

const big = api.MaxVars + 1

func TestNone(t *testing.T) {
	for _, x := range []*trail.Trail{nil, {}} {
		if x.Decide(1) != api.ErrNil || x.Imply(0, -1) != api.ErrNil || x.Decide(0) != api.ErrNil {
			t.Error("a trail that was not made takes something")
		}
		if x.Value(1) != 0 || x.Level(1) != -1 || x.Reason(1) != -1 || x.Place(1) != -1 || x.Depth() != 0 || len(x.Lits()) > 0 || x.Open() != 0 || len(x.Back(0)) > 0 {
			t.Error("a trail that was not made has something")
		}
	}
}

func TestNew(t *testing.T) {
	for _, vars := range []int{-1, big, math.MinInt, math.MaxInt} {
		if x, e := trail.New(vars); x != nil || e != api.ErrArg {
			t.Error(vars, e)
		}
	}
	for _, vars := range []int{0, 1, 5, api.MaxVars} {
		x, e := trail.New(vars)
		if e != api.OK || x.Open() != vars || x.Depth() != 0 || len(x.Lits()) > 0 {
			t.Error(vars, e)
		}
		if x.Decide(vars+1) != api.ErrLit || vars > 0 && x.Imply(-vars, 0) != api.OK {
			t.Error(vars)
		}
	}
}

func TestDecideAndImply(t *testing.T) {
	x, _ := trail.New(4)
	for i, y := range []struct {
		lit, reason int // a reason of -2: it is decided
		e           api.Errno
		depth       int
	}{
		{0, -2, api.ErrLit, 0}, {5, -2, api.ErrLit, 0}, {-5, -2, api.ErrLit, 0}, {math.MinInt, -2, api.ErrLit, 0}, {big, 1, api.ErrLit, 0}, {5, -1, api.ErrLit, 0},
		{2, -1, api.ErrArg, 0}, {2, 0, api.OK, 0}, {2, -1, api.ErrDup, 0}, {-2, 7, api.ErrDup, 0}, {2, -2, api.ErrDup, 0}, {-2, -2, api.ErrDup, 0},
		{-1, -2, api.OK, 1}, {1, -2, api.ErrDup, 1}, {4, 9, api.OK, 1}, {3, math.MinInt, api.ErrArg, 1}, {-3, -2, api.OK, 2},
	} {
		var e api.Errno
		if y.reason == -2 {
			e = x.Decide(y.lit)
		} else {
			e = x.Imply(y.lit, y.reason)
		}
		if e != y.e || x.Depth() != y.depth {
			t.Errorf("%d: %d, %d", i, e, x.Depth())
		}
	}
	if !slices.Equal(x.Lits(), []int{2, -1, 4, -3}) || x.Open() != 0 {
		t.Error(x.Lits(), x.Open())
	}
	for v, want := range map[int][4]int{2: {1, 0, 0, 0}, 1: {-1, 1, -1, 1}, 4: {1, 1, 9, 2}, 3: {-1, 2, -1, 3}, 0: {0, -1, -1, -1}, 5: {0, -1, -1, -1}, big: {0, -1, -1, -1}, math.MinInt: {0, -1, -1, -1}} {
		if got := [4]int{x.Value(v), x.Level(v), x.Reason(v), x.Place(v)}; got != want {
			t.Errorf("of %d: %v, not %v", v, got, want)
		}
	}
	if x.Value(-1) != 1 || x.Value(-2) != -1 || x.Level(-2) != -1 || x.Reason(-4) != -1 || x.Place(-4) != -1 || x.Value(-5) != 0 {
		t.Error("of opposites")
	}
	x.Lits()[0] = 9
	if x.Lits()[0] != 2 {
		t.Error("a trail shares memory with what it told")
	}
}

func TestBack(t *testing.T) {
	x, _ := trail.New(9)
	build := func() {
		x.Decide(1)
		x.Imply(-2, 5)
		x.Decide(3)
		x.Decide(-4)
		x.Imply(6, 7)
	}
	x.Imply(8, 3)
	build()
	for i, y := range []struct {
		level int
		gone  []int
		left  []int
		depth int
	}{
		{9, nil, []int{8, 1, -2, 3, -4, 6}, 3}, {3, nil, []int{8, 1, -2, 3, -4, 6}, 3}, {2, []int{6, -4}, []int{8, 1, -2, 3}, 2},
		{1, []int{3}, []int{8, 1, -2}, 1}, {2, nil, []int{8, 1, -2}, 1}, {-9, []int{-2, 1}, []int{8}, 0}, {0, nil, []int{8}, 0}, {math.MinInt, nil, []int{8}, 0}, {math.MaxInt, nil, []int{8}, 0},
	} {
		gone := x.Back(y.level)
		if !slices.Equal(gone, y.gone) || !slices.Equal(x.Lits(), y.left) || x.Depth() != y.depth || x.Open() != 9-len(y.left) {
			t.Errorf("%d: %v, %v, %d", i, gone, x.Lits(), x.Depth())
		}
		for _, l := range gone {
			v := max(l, -l)
			if x.Value(l) != 0 || x.Value(-l) != 0 || x.Level(v) != -1 || x.Reason(v) != -1 || x.Place(v) != -1 {
				t.Errorf("%d: something is left of %d", i, l)
			}
		}
	}
	build()
	if !slices.Equal(x.Back(0), []int{6, -4, 3, -2, 1}) || x.Level(8) != 0 || x.Reason(8) != 3 || x.Place(8) != 0 {
		t.Error(x.Lits())
	}
}

// TestKeeps holds a trail against a list of literals, through many calls.
func TestKeeps(t *testing.T) {
	type row struct{ lit, level, reason int }
	var list []row
	x, _ := trail.New(12)
	depth, n := 0, 1
	for round := range 5000 {
		n = (n*7919 + 13) % 100003
		l := 1 + n%12
		if n/12%2 == 0 {
			l = -l
		}
		taken := slices.ContainsFunc(list, func(r row) bool { return r.lit == l || r.lit == -l })
		want := api.OK
		if taken {
			want = api.ErrDup
		}
		switch n / 24 % 5 {
		case 0, 1:
			if x.Decide(l) != want {
				t.Fatal(round)
			}
			if !taken {
				depth++
				list = append(list, row{l, depth, -1})
			}
		case 2, 3:
			if x.Imply(l, n) != want {
				t.Fatal(round)
			}
			if !taken {
				list = append(list, row{l, depth, n})
			}
		default:
			level := n/120%8 - 1
			x.Back(level)
			level = max(level, 0)
			list = slices.DeleteFunc(list, func(r row) bool { return r.level > level })
			depth = min(depth, level)
		}
		if x.Depth() != depth || x.Open() != 12-len(list) || len(x.Lits()) != len(list) || assign.Check(x.Lits(), 12) != api.OK {
			t.Fatal(round, x.Depth(), x.Lits())
		}
		for i, r := range list {
			v := max(r.lit, -r.lit)
			if x.Lits()[i] != r.lit || x.Value(r.lit) != 1 || x.Value(-r.lit) != -1 || x.Level(v) != r.level || x.Reason(v) != r.reason || x.Place(v) != i {
				t.Fatal(round, r)
			}
		}
	}
}
