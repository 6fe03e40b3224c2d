package states_test

import (
	"math"
	"slices"
	"testing"

	"replevin/numbering"
	"replevin/states"
)

func size(ops, n int) numbering.Size { return numbering.Size{Ops: ops, States: n} }

func same(a, b [][]int) bool { return slices.EqualFunc(a, b, slices.Equal[[]int]) }

func TestClauses(t *testing.T) {
	for i, x := range []struct {
		s    numbering.Size
		init int
		want [][]int
	}{
		{size(0, 2), 1, [][]int{{2}, {1, 2}, {-1, -2}}}, {size(0, 2), 0, [][]int{{1}, {1, 2}, {-1, -2}}}, {size(0, 1), 0, [][]int{{1}, {1}}}, {size(1, 1), 0, [][]int{{3}, {3}, {4}}},
		{size(1, 3), 2, [][]int{{5}, {3, 4, 5}, {-3, -4}, {-3, -5}, {-4, -5}, {6, 7, 8}, {-6, -7}, {-6, -8}, {-7, -8}}},
		{size(1, 3), 3, nil}, {size(1, 3), -1, nil}, {size(1, 3), math.MaxInt, nil}, {size(-1, 3), 0, nil}, {size(65, 1), 0, nil}, {size(0, 0), 0, nil}, {size(0, 33), 0, nil},
	} {
		if got := states.Clauses(x.s, x.init); !same(got, x.want) {
			t.Errorf("%d: %v", i, got)
		}
	}
	for n := range 65 {
		for _, m := range []int{1, 2, 7, 32} {
			if got := len(states.Clauses(size(n, m), m-1)); got != 1+(n+1)*(1+m*(m-1)/2) {
				t.Error(n, m, got)
			}
		}
	}
	c := states.Clauses(size(0, 1), 0)
	c[0][0] = 9
	if c[1][0] != 1 {
		t.Error("clauses share memory")
	}
}

func TestTruths(t *testing.T) {
	s := size(2, 3)
	want := make([]bool, numbering.Vars(s))
	want[7-1], want[12-1], want[14-1] = true, true, true
	if m, ok := states.Truths(s, []int{0, 2, 1}); !ok || !slices.Equal(m, want) {
		t.Error(m, ok)
	}
	for i, x := range []struct {
		s   numbering.Size
		row []int
	}{
		{s, nil}, {s, []int{0, 1}}, {s, []int{0, 1, 2, 0}}, {s, []int{0, 1, 3}}, {s, []int{-1, 1, 0}}, {s, []int{0, math.MinInt, math.MaxInt}}, {size(-1, 1), nil}, {size(0, 0), []int{0}}, {size(65, 1), make([]int, 66)},
	} {
		if m, ok := states.Truths(x.s, x.row); ok || len(m) > 0 {
			t.Errorf("%d: %v", i, m)
		}
	}
}

func TestRow(t *testing.T) {
	s := size(2, 3)
	m, _ := states.Truths(s, []int{1, 1, 2})
	m[0], m[4] = true, true
	if row, ok := states.Row(s, m); !ok || !slices.Equal(row, []int{1, 1, 2}) {
		t.Error(row, ok)
	}
	for i, x := range [][]bool{nil, m[1:], append(slices.Clone(m), true), make([]bool, len(m))} {
		if row, ok := states.Row(s, x); ok || len(row) > 0 {
			t.Errorf("%d: %v", i, row)
		}
	}
	for v := 7; v <= 15; v++ {
		x := slices.Clone(m)
		x[v-1] = !x[v-1]
		if row, ok := states.Row(s, x); ok || len(row) > 0 {
			t.Errorf("with %d: %v", v, row)
		}
	}
	for _, s := range []numbering.Size{size(0, 0), size(-1, 1), size(65, 1), size(1, 33)} {
		if row, ok := states.Row(s, nil); ok || len(row) > 0 {
			t.Error("of a size that may not be", s)
		}
	}
}

// TestOne goes through all truths of small sizes.
func TestOne(t *testing.T) {
	for _, s := range []numbering.Size{size(0, 1), size(0, 3), size(1, 2), size(2, 2), size(1, 3)} {
		vars := numbering.Vars(s)
		for init := range s.States {
			clauses := states.Clauses(s, init)
			for bits := range 1 << vars {
				m := make([]bool, vars)
				for i := range m {
					m[i] = bits>>i&1 == 1
				}
				holds := !slices.ContainsFunc(clauses, func(c []int) bool {
					return !slices.ContainsFunc(c, func(x int) bool { return m[max(x, -x)-1] == (x > 0) })
				})
				row, ok := states.Row(s, m)
				if holds != (ok && row[0] == init) {
					t.Fatal(s, m, row)
				}
				if !ok {
					continue
				}
				told, ok := states.Truths(s, row)
				if back, ok2 := states.Row(s, told); !ok || !ok2 || !slices.Equal(back, row) {
					t.Fatal(s, row, back)
				}
			}
		}
	}
}
