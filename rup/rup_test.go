package rup_test

import (
	"math"
	"slices"
	"testing"

	"replevin/api"
	"replevin/rup"
	"replevin/units"
)

const big = api.MaxVars + 1

func TestStart(t *testing.T) {
	for i, x := range []struct {
		c, want []int
		e       api.Errno
	}{
		{nil, nil, api.OK}, {[]int{3, -1, 2}, []int{-3, 1, -2}, api.OK}, {[]int{3, -1, 3, -1}, []int{-3, 1}, api.OK},
		{[]int{1, 0}, nil, api.ErrLit}, {[]int{big}, nil, api.ErrLit}, {[]int{math.MinInt}, nil, api.ErrLit},
		{[]int{1, -1}, nil, api.ErrClause}, {[]int{1, -1, 0}, nil, api.ErrLit},
	} {
		if l, e := rup.Start(x.c); !slices.Equal(l, x.want) || e != x.e {
			t.Errorf("%d: %v, %d", i, l, e)
		}
	}
}

func TestStep(t *testing.T) {
	for i, x := range []struct {
		l, hint, out []int
		conflict     bool
		e            api.Errno
	}{
		{[]int{1, -2}, []int{-1, 2}, []int{1, -2}, true, api.OK},
		{[]int{1, -2}, []int{-1, 3, 2}, []int{1, -2, 3}, false, api.OK},
		{[]int{1, -2}, []int{-1, 3, 4}, nil, false, api.ErrHint},
		{[]int{1, -2}, []int{1, 3}, nil, false, api.ErrHint},
		{[]int{1, -2}, []int{3, 3}, nil, false, api.ErrHint},
		{nil, nil, nil, true, api.OK}, {nil, []int{0, big}, nil, true, api.OK}, {nil, []int{-7, 0}, []int{-7}, false, api.OK},
	} {
		out, conflict, e := rup.Step(x.l, x.hint)
		if !slices.Equal(out, x.out) || conflict != x.conflict || e != x.e {
			t.Errorf("%d: %v, %t, %d", i, out, conflict, e)
		}
	}
	l := append(make([]int, 0, 9), 1)
	for _, hint := range [][]int{{-1, 2}, {-1}} {
		out, _, _ := rup.Step(l, hint)
		out[0] = 7
		if l[0] != 1 || l[:2][1] != 0 {
			t.Error("Step shares memory with what it was given")
		}
	}
}

func TestChain(t *testing.T) {
	for i, x := range []struct {
		l     []int
		hints [][]int
		out   []int
		used  int
		e     api.Errno
	}{
		{[]int{-3}, [][]int{{-2, 3}, {-1, 2}, {1}}, []int{-3, -2, -1}, 3, api.OK},
		{[]int{-3}, [][]int{{-2, 3}, {-1, 2}, {1}, {7, 8}, {9}}, []int{-3, -2, -1}, 3, api.OK},
		{[]int{-3}, [][]int{{-2, 3}, {-1, 2}}, []int{-3, -2, -1}, 2, api.ErrLast},
		{[]int{-3}, [][]int{{-2, 3}, {-3, 5}, {1}}, nil, 1, api.ErrHint},
		{[]int{-3}, [][]int{{4, 5}}, nil, 0, api.ErrHint},
		{[]int{-3}, [][]int{{-2, 3}, {-2, 3}}, nil, 1, api.ErrHint},
		{[]int{-3}, nil, []int{-3}, 0, api.ErrLast}, {nil, [][]int{nil}, nil, 1, api.OK},
		{[]int{1, -1, 0}, [][]int{{1, 2}}, nil, 0, api.ErrHint},
	} {
		was := slices.Clone(x.l)
		out, used, e := rup.Chain(x.l, x.hints)
		if !slices.Equal(out, x.out) || used != x.used || e != x.e || !slices.Equal(was, x.l) {
			t.Errorf("%d: %v, %d, %d", i, out, used, e)
		}
	}
	l := append(make([]int, 0, 9), 1)
	out, _, _ := rup.Chain(l, [][]int{{2}})
	out[0] = 7
	if l[0] != 1 || l[:2][1] != 0 {
		t.Error("Chain shares memory with what it was given")
	}
}

func TestShow(t *testing.T) {
	for i, x := range []struct {
		c     []int
		hints [][]int
		used  int
		e     api.Errno
	}{
		{[]int{3}, [][]int{{-2, 3}, {-1, 2}, {1}}, 3, api.OK}, {[]int{3, 3}, [][]int{{3}, {9}}, 1, api.OK},
		{[]int{3}, [][]int{{-2, 3}}, 1, api.ErrLast}, {[]int{3}, [][]int{{-2, 3}, {7, 8}}, 1, api.ErrHint},
		{[]int{3}, nil, 0, api.ErrLast}, {nil, [][]int{{1}, {-1}}, 2, api.OK}, {nil, nil, 0, api.ErrLast},
		{[]int{0}, [][]int{nil}, 0, api.ErrLit}, {[]int{2, -2}, [][]int{nil}, 0, api.ErrClause}, {[]int{2, -2, big}, nil, 0, api.ErrLit},
	} {
		if used, e := rup.Show(x.c, x.hints); used != x.used || e != x.e {
			t.Errorf("%d: %d, %d", i, used, e)
		}
	}
}

// chance tells numbers that look like chance, always the same ones.
type chance uint64

func (c *chance) below(n int) int {
	*c = *c*6364136223846793005 + 1442695040888963407
	return int(uint64(*c)>>33) % n
}

// some tells rows of at most three literals of five variables.
func (c *chance) some(most int) [][]int {
	var out [][]int
	for range c.below(most) {
		var row []int
		for range c.below(4) {
			row = append(row, (1+c.below(5))*(1-2*c.below(2)))
		}
		out = append(out, row)
	}
	return out
}

// holds tells whether a clause holds with the truths that are the bits of m.
func holds(c []int, m int) bool {
	return slices.ContainsFunc(c, func(x int) bool { return (m>>max(x-1, -x-1)&1 == 1) == (x > 0) })
}

func TestShows(t *testing.T) {
	var c chance
	for range 20000 {
		hints := c.some(4)
		for _, row := range c.some(3) {
			if _, e := rup.Show(row, hints); e != api.OK {
				continue
			}
			for m := range 32 {
				all := !slices.ContainsFunc(hints, func(h []int) bool { return !holds(h, m) })
				if all && !holds(row, m) {
					t.Fatal(row, hints, m)
				}
			}
		}
	}
}

// TestSteps: Chain is Step by Step.
func TestSteps(t *testing.T) {
	var c chance
	for range 3000 {
		hints := c.some(6)
		out, used, e := rup.Chain([]int{1}, hints)
		l, n, want := []int{1}, 0, api.ErrLast
		for _, h := range hints {
			next, conflict, e := rup.Step(l, h)
			if e != api.OK {
				next, want = nil, e
			} else {
				n++
			}
			l = next
			if conflict {
				want = api.OK
			}
			if want != api.ErrLast {
				break
			}
		}
		if !slices.Equal(out, l) || used != n || e != want {
			t.Fatal(hints, out, used, e, l, n, want)
		}
	}
}

func TestHints(t *testing.T) {
	var c chance
	for range 3000 {
		clauses := c.some(12)
		row := []int{1 + c.below(5), -1 - c.below(5)}[c.below(3)%2:]
		hints, ok := rup.Hints(clauses, row)
		_, e := rup.Start(row)
		if want := e == api.OK && units.Refutes(clauses, row); ok != want || !ok && len(hints) > 0 {
			t.Fatal(clauses, row, hints, ok)
		}
		var used [][]int
		for _, i := range hints {
			used = append(used, clauses[i])
		}
		if n, e := rup.Show(row, used); ok && (n != len(hints) || e != api.OK) {
			t.Fatal(clauses, row, hints, n, e)
		}
	}
	for i, x := range []struct {
		clauses [][]int
		c       []int
	}{{[][]int{nil}, []int{0}}, {[][]int{nil}, []int{4, -4}}, {nil, []int{4}}, {[][]int{{1, 2}}, nil}} {
		if hints, ok := rup.Hints(x.clauses, x.c); ok || len(hints) > 0 {
			t.Errorf("%d: %v", i, hints)
		}
	}
}
