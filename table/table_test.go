package table_test

import (
	"math"
	"testing"

	"replevin/api"
	"replevin/table"
)

func TestValue(t *testing.T) {
	x := table.Of([]int{1, -2, 4, -4, 0, math.MinInt, api.MaxVars + 1})
	x.Add(-9)
	x.Add(0)
	for l, want := range map[int]int{1: 1, -1: -1, 2: -1, -2: 1, 3: 0, 4: 1, -4: 1, 9: -1, -9: 1, 8: 0, 0: 0, math.MinInt: 0, api.MaxVars: 0, api.MaxVars + 1: 0} {
		if got := x.Value(l); got != want {
			t.Errorf("value of %d: %d, not %d", l, got, want)
		}
	}
	if table.Of(nil).Value(1) != 0 {
		t.Error("a literal has a value in nothing")
	}
}

func TestClause(t *testing.T) {
	x := table.Of([]int{1, -2})
	for i, y := range []struct {
		c           []int
		value, unit int
	}{
		{nil, -1, 0}, {[]int{0, math.MaxInt}, -1, 0}, {[]int{-1, 2}, -1, 0}, {[]int{-1, 3, 2}, 0, 3},
		{[]int{3, 4}, 0, 0}, {[]int{3, 3}, 0, 0}, {[]int{3, 1}, 1, 0}, {[]int{-1, 0, -3}, 0, -3},
	} {
		if v, u := x.Clause(y.c); v != y.value || u != y.unit {
			t.Errorf("%d: %d, %d", i, v, u)
		}
	}
}
