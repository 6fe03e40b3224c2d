package places_test

import (
	"math"
	"slices"
	"testing"

	"replevin/numbering"
	"replevin/places"
)

func size(ops, states int) numbering.Size { return numbering.Size{Ops: ops, States: states} }

func same(a, b [][]int) bool { return slices.EqualFunc(a, b, slices.Equal[[]int]) }

func TestMost(t *testing.T) {
	for i, x := range []struct {
		vars []int
		want [][]int
	}{
		{nil, nil}, {[]int{5}, nil}, {[]int{5, 3}, [][]int{{-5, -3}}}, {[]int{1, 4, 2, 3}, [][]int{{-1, -4}, {-1, -2}, {-1, -3}, {-4, -2}, {-4, -3}, {-2, -3}}}, {[]int{2, 2}, [][]int{{-2, -2}}},
	} {
		if got := places.Most(x.vars...); !same(got, x.want) {
			t.Errorf("%d: %v", i, got)
		}
	}
}

func TestClauses(t *testing.T) {
	for i, x := range []struct {
		s    numbering.Size
		want [][]int
	}{
		{size(0, 1), nil}, {size(1, 1), [][]int{{1}}}, {size(2, 1), [][]int{{1, 2}, {-1, -2}, {3, 4}, {-3, -4}, {-1, -3}, {-2, -4}}}, {size(-1, 1), nil}, {size(65, 1), nil}, {size(2, 0), nil}, {size(2, 33), nil},
		{size(3, 7), [][]int{{1, 2, 3}, {-1, -2}, {-1, -3}, {-2, -3}, {4, 5, 6}, {-4, -5}, {-4, -6}, {-5, -6}, {7, 8, 9}, {-7, -8}, {-7, -9}, {-8, -9}, {-1, -4}, {-1, -7}, {-4, -7}, {-2, -5}, {-2, -8}, {-5, -8}, {-3, -6}, {-3, -9}, {-6, -9}}},
	} {
		if got := places.Clauses(x.s); !same(got, x.want) {
			t.Errorf("%d: %v", i, got)
		}
	}
	for n := range 65 {
		if got := len(places.Clauses(size(n, 2))); got != n+n*n*(n-1) {
			t.Error(n, got)
		}
	}
	c := places.Clauses(size(2, 1))
	c[0] = append(c[0], 9)
	c[0][0], c[1][0] = 9, 9
	if !slices.Equal(c[2], []int{3, 4}) || !slices.Equal(c[4], []int{-1, -3}) {
		t.Error("clauses share memory")
	}
}

func TestTruths(t *testing.T) {
	s := size(3, 2)
	m, ok := places.Truths(s, []int{1, 2, 0})
	want := make([]bool, numbering.Vars(s))
	want[3-1], want[4-1], want[8-1] = true, true, true
	if !ok || !slices.Equal(m, want) {
		t.Error(m)
	}
	for i, x := range []struct {
		s     numbering.Size
		order []int
		ok    bool
	}{
		{s, []int{0, 1}, false}, {s, []int{0, 1, 1}, false}, {s, []int{0, 1, 3}, false}, {s, []int{-1, 1, 0}, false}, {s, []int{0, 1, 2, 0}, false}, {s, nil, false}, {size(0, 1), nil, true}, {s, []int{math.MaxInt, math.MinInt, 0}, false},
		{size(1, 0), []int{0}, false}, {size(-1, 1), nil, false}, {size(0, 1), []int{0}, false}, {s, []int{2, 1, 0}, true},
	} {
		m, ok := places.Truths(x.s, x.order)
		if ok != x.ok || ok && len(m) != numbering.Vars(x.s) || !ok && len(m) > 0 {
			t.Errorf("%d: %v, %t", i, m, ok)
		}
	}
}

func TestOrder(t *testing.T) {
	s := size(3, 2)
	m, _ := places.Truths(s, []int{2, 0, 1})
	for i := 10; i <= numbering.Vars(s); i++ {
		m[i-1] = i%2 == 0
	}
	if order, ok := places.Order(s, m); !ok || !slices.Equal(order, []int{2, 0, 1}) {
		t.Error(order, ok)
	}
	for i, x := range [][]bool{nil, m[1:], append(slices.Clone(m), false), make([]bool, len(m))} {
		if order, ok := places.Order(s, x); ok || len(order) > 0 {
			t.Errorf("%d: %v", i, order)
		}
	}
	for _, v := range []int{1, 2, 3, 5, 7} {
		x := slices.Clone(m)
		x[v-1] = !x[v-1]
		if order, ok := places.Order(s, x); ok || len(order) > 0 {
			t.Errorf("with %d: %v", v, order)
		}
	}
	if order, ok := places.Order(size(0, 2), []bool{true, false}); !ok || len(order) > 0 {
		t.Error(order, ok)
	}
	if _, ok := places.Order(size(0, 0), nil); ok {
		t.Error("of a size that may not be")
	}
}

// TestOrders goes through all truths of two operations, and of three but those of states.
func TestOrders(t *testing.T) {
	for n := 1; n <= 3; n++ {
		s := size(n, 1)
		vars, orders := numbering.Vars(s), 0
		for bits := range 1 << (n * n) {
			m := make([]bool, vars)
			for i := range n * n {
				m[i] = bits>>i&1 == 1
			}
			holds := !slices.ContainsFunc(places.Clauses(s), func(c []int) bool {
				return !slices.ContainsFunc(c, func(x int) bool { return m[max(x, -x)-1] == (x > 0) })
			})
			order, ok := places.Order(s, m)
			if holds != ok {
				t.Fatal(m, order)
			}
			if !ok {
				continue
			}
			orders++
			if back, ok := places.Truths(s, order); !ok || !slices.Equal(back, m) {
				t.Fatal(m, order, back)
			}
		}
		if orders != []int{1, 1, 2, 6}[n] {
			t.Error(n, orders)
		}
	}
}
