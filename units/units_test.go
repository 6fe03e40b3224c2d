package units_test

import (
	"math"
	"slices"
	"testing"

	"replevin/api"
	"replevin/assign"
	"replevin/units"
)

const big = api.MaxVars + 1

func TestNext(t *testing.T) {
	clauses := [][]int{{1, 2}, {3, 3}, {-4, 5}, {6}, nil, {0, big}, {4}}
	for i, x := range []struct {
		l       []int
		lit, by int
		ok      bool
	}{
		{nil, 6, 3, true}, {[]int{-2}, 1, 0, true}, {[]int{-2, 1}, 6, 3, true}, {[]int{4}, 5, 2, true},
		{[]int{6, -5}, -4, 2, true}, {[]int{6}, 4, 6, true}, {[]int{6, 4, 5}, 0, 0, false}, {[]int{6, 4, 5, -3}, 0, 0, false},
		{[]int{1, -1, 6, 4, 5}, 0, 0, false},
	} {
		if l, by, ok := units.Next(clauses, x.l); l != x.lit || by != x.by || ok != x.ok {
			t.Errorf("%d: %d, %d, %t", i, l, by, ok)
		}
	}
}

func TestPropagate(t *testing.T) {
	for i, x := range []struct {
		clauses  [][]int
		l        []int
		out, by  []int
		conflict int
	}{
		{[][]int{{1}, {-1, 2}, {-2, 3}}, nil, []int{1, 2, 3}, []int{0, 1, 2}, -1},
		{[][]int{{-2, 3}, {-1, 2}, {1}}, nil, []int{1, 2, 3}, []int{2, 1, 0}, -1},
		{[][]int{{-2, 3}, {-1, 2}, {1}, {5}}, nil, []int{1, 2, 3, 5}, []int{2, 1, 0, 3}, -1},
		{nil, []int{4, 0, 4, -4}, []int{4, 0, 4, -4}, nil, -1},
		{[][]int{{1}, nil, {2}}, []int{7}, []int{7}, nil, 1},
		{[][]int{{1}, {0, math.MinInt}, nil}, nil, nil, nil, 1},
		{[][]int{{1}, {-1, 2}, {-2, -1}, {-1}}, nil, []int{1}, []int{0}, 3},
		{[][]int{{1}, {-1, 2}, {-2, -1}}, nil, []int{1, 2}, []int{0, 1}, 2},
		{[][]int{{2, 2}, {-2, 1}, {-1, 0}}, nil, []int{-1, -2}, []int{2, 1}, 0},
		{[][]int{{1, -1}, {1, 2}}, []int{-2}, []int{-2, 1}, []int{1}, -1},
		{[][]int{{-3, 2}, {3}, {1, 2}}, []int{3, -3}, []int{3, -3}, nil, -1},
		{[][]int{{1, big}, {-1, 0, -2}}, nil, []int{1, -2}, []int{0, 1}, -1},
		{[][]int{{-1}, {-2}, {1, 2, 3, 3}}, nil, []int{-1, -2}, []int{0, 1}, -1},
		{[][]int{{5, 6}, {-1}, {1}, {2}}, []int{-5, -6, 1}, []int{-5, -6, 1}, nil, 0},
	} {
		l := slices.Clone(x.l)
		out, by, conflict := units.Propagate(x.clauses, x.l)
		if !slices.Equal(out, x.out) || !slices.Equal(by, x.by) || conflict != x.conflict || !slices.Equal(l, x.l) {
			t.Errorf("%d: %v, %v, %d", i, out, by, conflict)
		}
	}
	l := append(make([]int, 0, 9), 1)
	out, _, _ := units.Propagate([][]int{{2}}, l)
	out[0] = 7
	if l[0] != 1 || l[:2][1] != 0 {
		t.Error("Propagate shares memory with what it was given")
	}
}

func TestClosed(t *testing.T) {
	for i, x := range []struct {
		clauses [][]int
		l       []int
		want    bool
	}{
		{nil, nil, true}, {[][]int{{1}}, nil, false}, {[][]int{{1}}, []int{1}, true}, {[][]int{{1}}, []int{-1}, false},
		{[][]int{{1, 2}}, nil, true}, {[][]int{{1, 2}, {3, 4}}, []int{-4}, false}, {[][]int{{1, 1}}, nil, true}, {[][]int{nil}, nil, false},
	} {
		if units.Closed(x.clauses, x.l) != x.want {
			t.Errorf("%d: not %t", i, x.want)
		}
	}
}

func TestRefutes(t *testing.T) {
	clauses := [][]int{{-1, 2}, {-2, 3}, {-4, 5}, {-4, -5}}
	for i, x := range []struct {
		c    []int
		want bool
	}{
		{[]int{-1, 3}, true}, {[]int{3, -1, 0, big}, true}, {[]int{-1, 4}, false}, {[]int{-4}, true}, {[]int{4}, false},
		{nil, false}, {[]int{7, -7}, true}, {[]int{big, -big}, false}, {[]int{1, 1}, false},
	} {
		if units.Refutes(clauses, x.c) != x.want {
			t.Errorf("%d: not %t", i, x.want)
		}
	}
	if !units.Refutes([][]int{{1}}, []int{1}) || units.Refutes([][]int{{1}}, []int{-1}) || !units.Refutes([][]int{{1}, {-1}}, nil) {
		t.Error("a clause does not follow of itself, or the empty one of two that are against one another")
	}
}

// chance tells numbers that look like chance, always the same ones.
type chance uint64

func (c *chance) below(n int) int {
	*c = *c*6364136223846793005 + 1442695040888963407
	return int(uint64(*c)>>33) % n
}

// some tells clauses of at most three literals of six variables.
func (c *chance) some() [][]int {
	var out [][]int
	for range c.below(12) {
		var row []int
		for range 1 + c.below(3) {
			row = append(row, (1+c.below(6))*(1-2*c.below(2)))
		}
		out = append(out, row)
	}
	return out
}

// slow is Propagate, word by word.
func slow(clauses [][]int, l []int) (out, by []int, conflict int) {
	out = slices.Clone(l)
	for {
		for i, c := range clauses {
			if assign.Clause(out, c) == -1 {
				return out, by, i
			}
		}
		x, i, ok := units.Next(clauses, out)
		if !ok {
			return out, by, -1
		}
		out, by = append(out, x), append(by, i)
	}
}

// holds tells whether all clauses hold with the truths that are the bits of m.
func holds(clauses [][]int, m int) bool {
	for _, c := range clauses {
		if !slices.ContainsFunc(c, func(x int) bool { return (m>>max(x-1, -x-1)&1 == 1) == (x > 0) }) {
			return false
		}
	}
	return true
}

func TestFollows(t *testing.T) {
	var c chance
	for range 3000 {
		clauses := c.some()
		var l []int
		for v := 1; v <= 6; v++ {
			if c.below(4) == 0 {
				l = append(l, v*(1-2*c.below(2)))
			}
		}
		out, by, conflict := units.Propagate(clauses, l)
		o2, b2, c2 := slow(clauses, l)
		if !slices.Equal(out, o2) || !slices.Equal(by, b2) || conflict != c2 {
			t.Fatal(clauses, l, out, by, conflict)
		}
		if conflict < 0 && !units.Closed(clauses, out) {
			t.Fatal(clauses, l, out)
		}
		for m := range 64 {
			all := holds(clauses, m)
			for _, x := range l {
				all = all && holds([][]int{{x}}, m)
			}
			for _, x := range out {
				if all && (conflict >= 0 || !holds([][]int{{x}}, m)) {
					t.Fatal(clauses, l, out, conflict, m)
				}
			}
			if units.Refutes(clauses, l) && holds(clauses, m) && !holds([][]int{l}, m) {
				t.Fatal(clauses, l, m)
			}
		}
		turned := slices.Clone(clauses)
		slices.Reverse(turned)
		o2, _, c2 = units.Propagate(turned, l)
		slices.Sort(out)
		slices.Sort(o2)
		if (c2 < 0) != (conflict < 0) || c2 < 0 && !slices.Equal(out, o2) {
			t.Fatal(clauses, l, out, o2)
		}
	}
}

// TestLong: a long chain, its clauses in the least helpful order.
func TestLong(t *testing.T) {
	const n = 300
	var clauses [][]int
	for v := n; v > 1; v-- {
		clauses = append(clauses, []int{-(v - 1), v})
	}
	out, by, conflict := units.Propagate(clauses, []int{1})
	if len(out) != n || len(by) != n-1 || conflict != -1 || by[0] != n-2 || by[n-2] != 0 {
		t.Error(len(out), len(by), conflict)
	}
}
