package times_test

import (
	"math"
	"slices"
	"testing"

	"replevin/numbering"
	"replevin/places"
	"replevin/times"
)

func size(ops, states int) numbering.Size { return numbering.Size{Ops: ops, States: states} }

func same(a, b [][]int) bool { return slices.EqualFunc(a, b, slices.Equal[[]int]) }

type pairs = [][2]int

func TestClauses(t *testing.T) {
	for i, x := range []struct {
		s     numbering.Size
		pairs pairs
		want  [][]int
	}{
		{size(2, 1), pairs{{0, 1}}, [][]int{{-2, -3}}}, {size(2, 1), pairs{{1, 0}}, [][]int{{-4, -1}}}, {size(2, 1), nil, nil}, {size(1, 1), pairs{{0, 0}}, nil}, {size(0, 1), pairs{{0, 1}}, nil},
		{size(2, 1), pairs{{0, 0}, {0, 2}, {-1, 1}, {1, 0}, {math.MinInt, math.MaxInt}, {0, 1}, {0, 1}}, [][]int{{-4, -1}, {-2, -3}, {-2, -3}}},
		{size(3, 9), pairs{{2, 0}}, [][]int{{-8, -1}, {-9, -1}, {-9, -2}}}, {size(-1, 1), pairs{{0, 1}}, nil}, {size(65, 1), pairs{{0, 1}}, nil}, {size(2, 0), pairs{{0, 1}}, nil},
	} {
		if got := times.Clauses(x.s, x.pairs); !same(got, x.want) {
			t.Errorf("%d: %v", i, got)
		}
	}
	for n := 2; n <= 64; n++ {
		if got := len(times.Clauses(size(n, 1), pairs{{n - 1, 0}, {0, 1}})); got != n*(n-1) {
			t.Error(n, got)
		}
	}
}

func TestAgainst(t *testing.T) {
	for i, x := range []struct {
		order []int
		pairs pairs
		at    int
		ok    bool
	}{
		{nil, nil, 0, true}, {nil, pairs{{0, 1}}, 1, true}, {[]int{2, 0, 1}, pairs{{0, 1}, {2, 1}}, 2, true}, {[]int{2, 0, 1}, pairs{{0, 1}, {1, 2}, {0, 2}}, 1, false}, {[]int{2, 0}, pairs{{1, 2}, {0, 1}, {0, 2}}, 2, false},
		{[]int{1, 0, 1}, pairs{{0, 1}}, 0, false}, {[]int{0, 1, 0}, pairs{{0, 1}}, 1, true}, {[]int{0, 1}, pairs{{0, 0}, {1, 1}}, 2, true}, {[]int{-5, math.MaxInt}, pairs{{math.MaxInt, -5}}, 0, false}, {[]int{0}, pairs{{0, 3}, {3, 0}}, 2, true},
	} {
		if at, ok := times.Against(x.order, x.pairs); at != x.at || ok != x.ok {
			t.Errorf("%d: %d, %t", i, at, ok)
		}
	}
}

func TestSort(t *testing.T) {
	for i, x := range []struct {
		n     int
		pairs pairs
		want  []int
		ok    bool
	}{
		{0, nil, nil, true}, {3, nil, []int{0, 1, 2}, true}, {3, pairs{{2, 0}}, []int{1, 2, 0}, true}, {3, pairs{{2, 1}, {1, 0}}, []int{2, 1, 0}, true}, {4, pairs{{3, 0}, {0, 1}}, []int{2, 3, 0, 1}, true}, {3, pairs{{0, 1}, {1, 2}, {2, 0}}, nil, false},
		{2, pairs{{0, 1}, {1, 0}}, nil, false}, {3, pairs{{1, 2}, {2, 1}}, nil, false}, {2, pairs{{0, 0}, {0, 2}, {2, 1}, {-1, 0}, {math.MinInt, 0}}, []int{0, 1}, true}, {-1, nil, nil, false}, {65, nil, nil, false}, {math.MaxInt, nil, nil, false}, {math.MinInt, nil, nil, false},
		{1, pairs{{0, 0}}, []int{0}, true},
	} {
		if got, ok := times.Sort(x.n, x.pairs); !slices.Equal(got, x.want) || ok != x.ok {
			t.Errorf("%d: %v, %t", i, got, ok)
		}
	}
	var chain pairs
	for i := range 63 {
		chain = append(chain, [2]int{i + 1, i})
	}
	if got, ok := times.Sort(64, chain); !ok || len(got) != 64 || got[0] != 63 || got[63] != 0 {
		t.Error(got, ok)
	}
	if got, ok := times.Sort(64, append(chain, [2]int{0, 63})); ok || len(got) > 0 {
		t.Error(got, ok)
	}
}

// chance tells numbers that look like chance, always the same ones.
type chance uint64

func (c *chance) below(n int) int {
	*c = *c*6364136223846793005 + 1442695040888963407
	return int(uint64(*c)>>33) % n
}

// orders tells all orders of the numbers below n, the least ones first.
func orders(n int) [][]int {
	out := [][]int{nil}
	for range n {
		var longer [][]int
		for _, o := range out {
			for i := range n {
				if !slices.Contains(o, i) {
					longer = append(longer, append(slices.Clone(o), i))
				}
			}
		}
		out = longer
	}
	return out
}

func TestOrders(t *testing.T) {
	var c chance
	for range 600 {
		n := 1 + c.below(4)
		s := size(n, 1)
		var p pairs
		for range c.below(5) {
			p = append(p, [2]int{c.below(n), c.below(n)})
		}
		var least []int
		for _, o := range orders(n) {
			m, _ := places.Truths(s, o)
			holds := !slices.ContainsFunc(times.Clauses(s, p), func(c []int) bool {
				return !slices.ContainsFunc(c, func(x int) bool { return m[max(x, -x)-1] == (x > 0) })
			})
			_, ok := times.Against(o, p)
			if ok != holds {
				t.Fatal(o, p)
			}
			if ok && least == nil {
				least = o
			}
		}
		if got, ok := times.Sort(n, p); ok != (least != nil) || !slices.Equal(got, least) {
			t.Fatal(n, p, got, least)
		}
	}
}
