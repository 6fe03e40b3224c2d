package object_test

import (
	"math"
	"slices"
	"testing"

	"replevin/api"
	"replevin/object"
)

func made(states, kinds, init int, rows ...api.Row) api.Object {
	return api.Object{States: states, Kinds: kinds, Init: init, Rows: rows}
}

func row(state, kind, next, result int) api.Row {
	return api.Row{State: state, Kind: kind, Next: next, Result: result}
}

func TestCheck(t *testing.T) {
	good := row(0, 0, 1, 0)
	for i, x := range []struct {
		o  api.Object
		at int
		e  api.Errno
	}{
		{made(1, 1, 0), 0, api.OK}, {made(0, 1, 0), -1, api.ErrArg}, {made(33, 1, 0), -1, api.ErrArg}, {made(32, 64, 31), 0, api.OK}, {made(1, 0, 0), -1, api.ErrArg}, {made(1, 65, 0), -1, api.ErrArg},
		{made(2, 1, 2), -1, api.ErrArg}, {made(2, 1, -1), -1, api.ErrArg}, {made(math.MinInt, 1, 0), -1, api.ErrArg}, {made(math.MaxInt, math.MaxInt, 0), -1, api.ErrArg}, {made(0, 1, 0, row(9, 9, 9, 9)), -1, api.ErrArg},
		{made(2, 2, 0, good, row(0, 1, 0, 1000000), row(1, 0, 1, 3)), 3, api.OK},
		{made(2, 2, 0, good, row(2, 0, 0, 0)), 1, api.ErrState}, {made(2, 2, 0, good, row(-1, 0, 0, 0)), 1, api.ErrState}, {made(2, 2, 0, good, row(1, 0, 2, 0)), 1, api.ErrState}, {made(2, 2, 0, good, row(1, 0, -1, 0)), 1, api.ErrState},
		{made(2, 2, 0, good, row(1, 2, 0, 0)), 1, api.ErrKind}, {made(2, 2, 0, good, row(1, -1, 0, 0)), 1, api.ErrKind}, {made(2, 2, 0, row(0, 2, 2, -1)), 0, api.ErrState}, {made(2, 2, 0, row(0, 2, 1, -1)), 0, api.ErrKind},
		{made(2, 2, 0, good, row(1, 1, 0, 1000001)), 1, api.ErrNum}, {made(2, 2, 0, good, row(1, 1, 0, -1)), 1, api.ErrNum}, {made(2, 2, 0, good, row(0, 0, 0, -1)), 1, api.ErrNum},
		{made(2, 2, 0, good, good), 1, api.ErrOrder}, {made(2, 2, 0, good, row(0, 0, 0, 5)), 1, api.ErrOrder}, {made(2, 2, 0, row(0, 1, 0, 0), good), 1, api.ErrOrder}, {made(2, 2, 0, row(1, 0, 0, 0), row(0, 1, 0, 0)), 1, api.ErrOrder},
		{made(2, 2, 0, row(0, 1, 0, 0), row(1, 0, 0, 0)), 2, api.OK}, {made(2, 2, 0, good, good, row(5, 0, 0, 0)), 1, api.ErrOrder},
	} {
		if at, e := object.Check(x.o); at != x.at || e != x.e {
			t.Errorf("%d: %d, %d", i, at, e)
		}
	}
}

func TestMove(t *testing.T) {
	o := made(2, 2, 0, row(0, 0, 1, 5), row(0, 0, 0, 6), row(1, 1, 0, 7), row(9, -4, 3, -2))
	for i, x := range []struct {
		state, kind, next, result int
		ok                        bool
	}{{0, 0, 1, 5, true}, {1, 1, 0, 7, true}, {0, 1, 0, 0, false}, {1, 0, 0, 0, false}, {9, -4, 3, -2, true}, {math.MinInt, math.MaxInt, 0, 0, false}} {
		if next, result, ok := object.Move(o, x.state, x.kind); next != x.next || result != x.result || ok != x.ok {
			t.Errorf("%d: %d, %d, %t", i, next, result, ok)
		}
	}
}

func TestReachAndDead(t *testing.T) {
	for i, x := range []struct {
		o           api.Object
		reach, dead []int
	}{
		{made(2, 1, 0, row(0, 0, 1, 0)), []int{0, 1}, nil}, {made(2, 1, 1, row(0, 0, 1, 0)), []int{1}, []int{0}}, {made(1, 3, 0), []int{0}, []int{0, 1, 2}},
		{made(5, 4, 3, row(0, 0, 4, 0), row(1, 1, 0, 0), row(2, 3, 1, 0), row(3, 1, 1, 0)), []int{0, 1, 3, 4}, []int{2, 3}},
		{made(4, 2, 0, row(0, 0, 0, 0), row(2, 1, 3, 0)), []int{0}, []int{1}}, {made(4, 2, 3, row(0, 0, 2, 0), row(1, 0, 0, 0), row(3, 1, 1, 0)), []int{0, 1, 2, 3}, nil},
		{made(0, 2, 0), nil, nil}, {made(2, 2, 0, row(0, 0, 2, 0)), nil, nil}, {made(2, 2, 5), nil, nil},
	} {
		if got := object.Reach(x.o); !slices.Equal(got, x.reach) {
			t.Errorf("%d: Reach %v", i, got)
		}
		if got := object.Dead(x.o); !slices.Equal(got, x.dead) {
			t.Errorf("%d: Dead %v", i, got)
		}
	}
}

func TestSame(t *testing.T) {
	a := made(2, 2, 0, row(0, 0, 1, 5), row(1, 1, 0, 7))
	for i, b := range []api.Object{
		made(3, 2, 0, a.Rows...), made(2, 3, 0, a.Rows...), made(2, 2, 1, a.Rows...), made(2, 2, 0, a.Rows[0]), made(2, 2, 0, a.Rows[1], a.Rows[0]), made(2, 2, 0, row(0, 0, 1, 5), row(1, 1, 0, 8)),
		made(2, 2, 0, row(0, 0, 1, 5), row(1, 1, 1, 7)), made(2, 2, 0, row(0, 1, 1, 5), row(1, 1, 0, 7)), made(2, 2, 0, row(1, 0, 1, 5), row(1, 1, 0, 7)), made(2, 2, 0),
	} {
		if object.Same(a, b) || object.Same(b, a) {
			t.Error(i)
		}
	}
	if !object.Same(a, made(2, 2, 0, slices.Clone(a.Rows)...)) || !object.Same(made(-1, 0, 9), api.Object{States: -1, Init: 9, Rows: []api.Row{}}) {
		t.Error("the same ones are not")
	}
}

func TestSort(t *testing.T) {
	rows := []api.Row{row(1, 0, 0, 0), row(0, 2, 0, 0), row(0, 1, 1, 0), row(0, 1, 0, 9), row(0, 1, 0, -3), row(-1, 9, 9, 9), row(0, 1, 0, 9)}
	want := []api.Row{row(-1, 9, 9, 9), row(0, 1, 0, -3), row(0, 1, 0, 9), row(0, 1, 0, 9), row(0, 1, 1, 0), row(0, 2, 0, 0), row(1, 0, 0, 0)}
	was := slices.Clone(rows)
	if got := object.Sort(rows); !slices.Equal(got, want) || !slices.Equal(rows, was) || len(object.Sort(nil)) > 0 {
		t.Error(got, rows)
	}
	object.Sort(rows[:1])[0] = row(7, 7, 7, 7)
	if !slices.Equal(rows, was) {
		t.Error("Sort shares memory with what it was given")
	}
}

// chance tells numbers that look like chance, always the same ones.
type chance uint64

func (c *chance) below(n int) int {
	*c = *c*6364136223846793005 + 1442695040888963407
	return int(uint64(*c)>>33) % n
}

func TestReaches(t *testing.T) {
	var c chance
	for range 2000 {
		o := made(1+c.below(8), 1+c.below(4), 0)
		o.Init = c.below(o.States)
		for s := range o.States {
			for k := range o.Kinds {
				if c.below(4) == 0 {
					o.Rows = append(o.Rows, row(s, k, c.below(o.States), c.below(3)))
				}
			}
		}
		reach := object.Reach(o)
		in := func(s int) bool { return slices.Contains(reach, s) }
		if !in(o.Init) || !slices.IsSorted(reach) {
			t.Fatal(o, reach)
		}
		moved := map[int]bool{}
		for _, r := range o.Rows {
			if next, result, ok := object.Move(o, r.State, r.Kind); next != r.Next || result != r.Result || !ok {
				t.Fatal(o, r)
			}
			if in(r.State) && !in(r.Next) {
				t.Fatal(o, reach)
			}
			moved[r.Kind] = moved[r.Kind] || in(r.State)
		}
		for _, s := range reach {
			if s != o.Init && !slices.ContainsFunc(o.Rows, func(r api.Row) bool { return r.Next == s && r.State != s && in(r.State) }) {
				t.Fatal(o, reach)
			}
		}
		for k := range o.Kinds {
			if slices.Contains(object.Dead(o), k) == moved[k] {
				t.Fatal(o, k)
			}
		}
	}
}
