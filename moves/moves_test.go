package moves_test

import (
	"math"
	"slices"
	"testing"

	"replevin/api"
	"replevin/moves"
	"replevin/numbering"
	"replevin/places"
	"replevin/states"
)

func op(process, kind, start, end, result int) api.Oper {
	return api.Oper{Process: process, Kind: kind, Start: start, End: end, Result: result}
}

func same(a, b [][]int) bool { return slices.EqualFunc(a, b, slices.Equal[[]int]) }

// flag: kind 0 sets it, kind 1 tells it, kind 2 clears it, if it is set.
func flag() api.Object {
	return api.Object{States: 2, Kinds: 3, Rows: []api.Row{
		{State: 0, Kind: 0, Next: 1, Result: 0}, {State: 0, Kind: 1, Next: 0, Result: 0}, {State: 1, Kind: 0, Next: 1, Result: 0}, {State: 1, Kind: 1, Next: 1, Result: 1}, {State: 1, Kind: 2, Next: 0, Result: 5},
	}}
}

// one has one state, and a move of kind 0 with result 7.
func one() api.Object {
	return api.Object{States: 1, Kinds: 2, Rows: []api.Row{{State: 0, Kind: 0, Next: 0, Result: 7}}}
}

func TestSize(t *testing.T) {
	bad := flag()
	bad.Rows[4].Kind = 3
	for i, x := range []struct {
		o    api.Object
		l    []api.Oper
		want numbering.Size
	}{
		{flag(), nil, numbering.Size{Ops: 0, States: 2}}, {one(), []api.Oper{op(1, 0, 0, 1, 7)}, numbering.Size{Ops: 1, States: 1}}, {api.Object{}, nil, numbering.Size{}}, {bad, nil, numbering.Size{}}, {one(), []api.Oper{{}}, numbering.Size{}}, {one(), []api.Oper{op(1, 60, 0, -1, -1)}, numbering.Size{Ops: 1, States: 1}},
	} {
		if got := moves.Size(x.o, x.l); got != x.want {
			t.Errorf("%d: %v", i, got)
		}
	}
	var l []api.Oper
	for i := range 65 {
		l = append(l, op(1+i, 0, i, -1, -1))
	}
	if got := moves.Size(one(), l); got != (numbering.Size{Ops: 65, States: 1}) || len(moves.Clauses(one(), l)) > 0 {
		t.Error(got)
	}
	if _, ok := moves.Play(one(), l, nil, nil); ok {
		t.Error("of a size that may not be")
	}
}

func TestMay(t *testing.T) {
	for i, x := range []struct {
		x           api.Oper
		state, next int
		ok          bool
	}{
		{op(1, 0, 0, 1, 0), 0, 1, true}, {op(1, 0, 0, 1, 1), 0, 0, false}, {op(1, 0, 0, -1, -1), 0, 1, true}, {op(1, 1, 0, 1, 1), 1, 1, true}, {op(1, 1, 0, 1, 1), 0, 0, false}, {op(1, 1, 0, -1, -1), 0, 0, true}, {op(1, 2, 0, -1, -1), 0, 0, false}, {op(1, 2, 0, -1, -1), 1, 0, true},
		{op(1, 2, 0, -2, -1), 1, 0, false}, {op(1, 9, 0, -1, -1), 0, 0, false}, {op(1, 0, 0, -1, -1), 2, 0, false}, {op(1, 0, 0, -1, -1), math.MinInt, 0, false}, {op(0, 2, 9, 3, 5), 1, 0, true},
	} {
		if next, ok := moves.May(flag(), x.x, x.state); next != x.next || ok != x.ok {
			t.Errorf("%d: %d, %t", i, next, ok)
		}
	}
}

func TestClauses(t *testing.T) {
	for i, x := range []struct {
		o    api.Object
		l    []api.Oper
		want [][]int
	}{
		{one(), []api.Oper{op(1, 0, 0, 1, 7)}, [][]int{{2}, {-1, -2, -3, 4}}}, {one(), []api.Oper{op(1, 0, 0, 1, 8)}, [][]int{{2}, {-1, -2, -3}}}, {one(), []api.Oper{op(1, 0, 0, -1, -1)}, [][]int{{-1, -2, -3, 4}, {-1, 2, -3, 4}}}, {one(), []api.Oper{op(1, 1, 0, -1, -1)}, [][]int{{-1, -2, -3}, {-1, 2, -3, 4}}},
		{one(), nil, nil}, {api.Object{}, nil, nil}, {one(), []api.Oper{{}}, nil}, {one(), make([]api.Oper, 5001), nil},
		{flag(), []api.Oper{op(1, 0, 0, 2, 0), op(2, 1, 1, -1, -1)}, [][]int{
			{5}, {-1, -5, -7, 10}, {-1, -5, -8, 10}, {-2, -5, -9, 12}, {-2, -5, -10, 12},
			{-3, -6, -7, 9}, {-3, 6, -7, 9}, {-3, -6, -8, 10}, {-3, 6, -8, 10}, {-4, -6, -9, 11}, {-4, 6, -9, 11}, {-4, -6, -10, 12}, {-4, 6, -10, 12},
		}},
	} {
		if got := moves.Clauses(x.o, x.l); !same(got, x.want) {
			t.Errorf("%d: %v", i, got)
		}
	}
}

func TestPlay(t *testing.T) {
	l := []api.Oper{op(1, 0, 0, 2, 0), op(2, 1, 1, -1, -1), op(3, 2, 3, 4, 5)}
	all := []bool{true, true, true}
	for i, x := range []struct {
		l     []api.Oper
		order []int
		in    []bool
		want  []int
	}{
		{l, []int{0, 1, 2}, all, []int{0, 1, 1, 0}}, {l, []int{1, 0, 2}, all, []int{0, 0, 1, 0}}, {l, []int{0, 2, 1}, []bool{true, false, true}, []int{0, 1, 0, 0}}, {l, []int{2, 0, 1}, all, nil}, {l, []int{0, 1, 2}, []bool{true, true, false}, nil}, {l, []int{0, 1, 2}, []bool{false, true, true}, nil},
		{l, []int{0, 1}, all, nil}, {l, []int{0, 1, 1}, all, nil}, {l, []int{0, 1, 3}, all, nil}, {l, []int{-1, 0, 1}, all, nil}, {l, []int{0, 1, 2, 0}, all, nil}, {l, []int{0, 1, 2}, all[:2], nil}, {l, []int{0, 1, 2}, append(slices.Clone(all), true), nil}, {l, nil, nil, nil}, {nil, nil, nil, []int{0}},
		{l[:1], []int{math.MaxInt}, all[:1], nil}, {[]api.Oper{{}}, []int{0}, all[:1], nil}, {l[:1], []int{math.MinInt}, all[:1], nil},
	} {
		got, ok := moves.Play(flag(), x.l, x.order, x.in)
		if !slices.Equal(got, x.want) || ok != (x.want != nil) {
			t.Errorf("%d: %v, %t", i, got, ok)
		}
	}
	if _, ok := moves.Play(api.Object{}, nil, nil, nil); ok {
		t.Error("of an object that may not be")
	}
	set := flag()
	set.Init = 1
	if got, ok := moves.Play(set, l[1:2], []int{0}, []bool{false}); !ok || !slices.Equal(got, []int{1, 1}) {
		t.Error(got, ok)
	}
}

// chance tells numbers that look like chance, always the same ones.
type chance uint64

func (c *chance) below(n int) int {
	*c = *c*6364136223846793005 + 1442695040888963407
	return int(uint64(*c)>>33) % n
}

// TestPlays goes through orders, truths of In, and rows of states.
func TestPlays(t *testing.T) {
	var c chance
	o := flag()
	ends := 0
	for range 3000 {
		n := 1 + c.below(3)
		var l []api.Oper
		ended := 0
		for i := range n {
			x := op(1+i, c.below(3), i, -1, -1)
			if c.below(2) == 0 {
				x.End, x.Result = 10+i, []int{0, c.below(2), 5}[x.Kind]
				ended++
			}
			l = append(l, x)
		}
		s := moves.Size(o, l)
		clauses := moves.Clauses(o, l)
		if len(clauses) != ended*(1+n*2)+(n-ended)*2*n*2 {
			t.Fatal(l, len(clauses))
		}
		order := []int{0, 1, 2}[:n]
		k := c.below(n)
		order[0], order[k] = order[k], order[0]
		m, _ := places.Truths(s, order)
		in := make([]bool, n)
		for i := range in {
			in[i] = c.below(4) > 0
			m[n*n+i] = in[i]
		}
		played, ok := moves.Play(o, l, order, in)
		for bits := range 1 << n {
			row := []int{o.Init}
			for i := range n {
				row = append(row, bits>>i&1)
			}
			truths, _ := states.Truths(s, row)
			copy(m[n*n+n:], truths[n*n+n:])
			holds := !slices.ContainsFunc(clauses, func(c []int) bool {
				return !slices.ContainsFunc(c, func(x int) bool { return m[max(x, -x)-1] == (x > 0) })
			})
			if holds != (ok && slices.Equal(row, played)) {
				t.Fatal(l, order, in, row, played)
			}
			if holds {
				ends++
			}
		}
	}
	if ends < 500 {
		t.Error("too few are played to the end:", ends)
	}
}
