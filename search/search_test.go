package search_test

import (
	"math"
	"slices"
	"testing"

	"replevin/api"
	"replevin/oper"
	"replevin/search"
	"replevin/witness"
)

// register tells its value, 0 or 1: kinds 0 and 1 write, kind 2 reads; kind 3 has no move at 0.
func register() api.Object {
	return api.Object{States: 2, Kinds: 4, Rows: []api.Row{
		{State: 0, Kind: 0, Next: 0, Result: 9}, {State: 0, Kind: 1, Next: 1, Result: 9}, {State: 0, Kind: 2, Next: 0, Result: 0},
		{State: 1, Kind: 0, Next: 0, Result: 9}, {State: 1, Kind: 1, Next: 1, Result: 9}, {State: 1, Kind: 2, Next: 1, Result: 1}, {State: 1, Kind: 3, Next: 0, Result: 1},
	}}
}

func op(process, kind, start, end, result int) api.Oper {
	return api.Oper{Process: process, Kind: kind, Start: start, End: end, Result: result}
}

func pick(x ...int) []api.Pick {
	var out []api.Pick
	for i := 0; i < len(x); i += 2 {
		out = append(out, api.Pick{Oper: x[i], Result: x[i+1]})
	}
	return out
}

// row tells operations one behind the other in time.
func row(n, kind, result int) []api.Oper {
	var l []api.Oper
	for i := range n {
		l = append(l, op(1, kind, 2*i, 2*i+1, result))
	}
	return l
}

func TestSearch(t *testing.T) {
	o := register()
	bad := row(21, 1, 9)
	bad[20].Process = 0
	for i, x := range []struct {
		o     api.Object
		l     []api.Oper
		want  []api.Pick
		e     api.Errno
		count int
		ce    api.Errno
	}{
		{o, nil, nil, api.OK, 1, api.OK}, {o, []api.Oper{op(1, 1, 0, -1, -1)}, nil, api.OK, 2, api.OK}, {o, []api.Oper{op(1, 7, 0, -1, -1)}, nil, api.OK, 1, api.OK},
		{o, []api.Oper{op(1, 1, 0, 3, 9), op(2, 2, 1, 2, 0)}, pick(1, 0, 0, 9), api.OK, 1, api.OK}, {o, []api.Oper{op(1, 1, 0, 3, 9), op(2, 2, 1, 2, 1)}, pick(0, 9, 1, 1), api.OK, 1, api.OK},
		{o, []api.Oper{op(1, 1, 0, 1, 9), op(2, 2, 2, 3, 0)}, nil, api.ErrMiss, 0, api.OK}, {o, []api.Oper{op(1, 1, 0, 1, 9), op(2, 2, 2, 3, 1)}, pick(0, 9, 1, 1), api.OK, 1, api.OK}, {o, []api.Oper{op(1, 2, 0, 1, 1)}, nil, api.ErrMiss, 0, api.OK},
		{o, []api.Oper{op(1, 1, 0, -1, -1), op(2, 2, 1, 2, 1)}, pick(0, 9, 1, 1), api.OK, 1, api.OK}, {o, []api.Oper{op(1, 1, 0, -1, -1), op(2, 2, 1, 2, 0)}, pick(1, 0), api.OK, 2, api.OK}, {o, []api.Oper{op(1, 3, 0, -1, -1), op(2, 2, 1, 2, 0)}, pick(1, 0), api.OK, 1, api.OK},
		{o, []api.Oper{op(1, 1, 0, 3, 9), op(2, 3, 1, 4, 1), op(3, 2, 2, 5, 0)}, pick(0, 9, 1, 1, 2, 0), api.OK, 2, api.OK}, {o, []api.Oper{op(1, 0, 0, -1, -1), op(2, 1, 1, -1, -1), op(3, 2, 2, 5, 1)}, pick(0, 9, 1, 9, 2, 1), api.OK, 3, api.OK},
		{o, row(6, 1, 9), pick(0, 9, 1, 9, 2, 9, 3, 9, 4, 9, 5, 9), api.OK, 1, api.OK}, {o, row(7, 1, 9), pick(0, 9, 1, 9, 2, 9, 3, 9, 4, 9, 5, 9, 6, 9), api.OK, 0, api.ErrBig}, {o, row(20, 1, 8), nil, api.ErrMiss, 0, api.ErrBig}, {o, row(21, 1, 9), nil, api.ErrBig, 0, api.ErrBig},
		{o, bad, nil, api.ErrArg, 0, api.ErrArg}, {o, make([]api.Oper, 5001), nil, api.ErrArg, 0, api.ErrArg}, {api.Object{}, row(21, 1, 9), nil, api.ErrArg, 0, api.ErrArg}, {api.Object{}, nil, nil, api.ErrArg, 0, api.ErrArg},
	} {
		got, e := search.Search(x.o, x.l)
		if !slices.Equal(got, x.want) || e != x.e {
			t.Errorf("%d: Search %v, %d", i, got, e)
		}
		want := x.e
		if want == api.ErrMiss {
			want = api.OK
		}
		if ok, e := search.Lin(x.o, x.l); ok != (x.e == api.OK) || e != want {
			t.Errorf("%d: Lin %t, %d", i, ok, e)
		}
		if n, e := search.Count(x.o, x.l); n != x.count || e != x.ce {
			t.Errorf("%d: Count %d, %d", i, n, e)
		}
	}
}

func TestNext(t *testing.T) {
	o := register()
	l := []api.Oper{op(1, 1, 0, 5, 9), op(2, 2, 1, 4, 0), op(3, 2, 2, 3, 1), op(4, 3, 6, -1, -1), op(5, 2, 7, -1, -1), op(6, 9, 8, -1, -1)}
	for i, x := range []struct {
		state int
		done  []bool
		want  []api.Pick
	}{
		{0, nil, pick(0, 9, 1, 0)}, {1, nil, pick(0, 9, 2, 1)}, {0, []bool{true, true, true}, pick(4, 0)}, {1, []bool{true, true, true}, pick(3, 1, 4, 1)}, {0, []bool{true, false, true}, pick(1, 0)},
		{0, []bool{true, true, true, true, true, true, false}, nil}, {2, nil, nil}, {-1, nil, nil}, {math.MaxInt, nil, nil},
	} {
		if got := search.Next(o, l, x.state, x.done); !slices.Equal(got, x.want) {
			t.Errorf("%d: %v", i, got)
		}
	}
	bad := register()
	bad.Init = 2
	if len(search.Next(bad, l, 0, nil)) > 0 || len(search.Next(api.Object{States: 2}, l, 0, nil)) > 0 || len(search.Next(o, nil, 0, nil)) > 0 {
		t.Error("of no object, or no operations")
	}
	odd := []api.Oper{op(1, 2, 0, -7, 1), op(1, 2, 0, -7, 0)}
	if got := search.Next(o, odd, 0, nil); !slices.Equal(got, pick(1, 0)) {
		t.Error(got)
	}
}

// chance tells numbers that look like chance, always the same ones.
type chance uint64

func (c *chance) below(n int) int {
	*c = *c*6364136223846793005 + 1442695040888963407
	return int(uint64(*c)>>33) % n
}

// some tells operations of a register; at most so many events.
func (c *chance) some(most int) []api.Oper {
	var l []api.Event
	open := map[int]int{}
	for range 1 + c.below(most) {
		p := 1 + c.below(4)
		x := api.Event{What: api.Invoke, Process: p, N: c.below(4)}
		if kind, ok := open[p]; ok {
			x = api.Event{What: api.Return, Process: p, N: []int{9, 9, c.below(2), 1}[kind]}
			delete(open, p)
		} else {
			open[p] = x.N
		}
		l = append(l, x)
	}
	ops, _ := oper.Of(l)
	return ops
}

// slow tells all linearizations, in the order in which Next tells what comes, each ahead of what it is the beginning of.
func slow(o api.Object, l []api.Oper, state int, picks []api.Pick, tell func([]api.Pick)) {
	if witness.Is(o, l, picks) {
		tell(picks)
	}
	done := make([]bool, len(l))
	for _, p := range picks {
		done[p.Oper] = true
	}
	for _, p := range search.Next(o, l, state, done) {
		for _, r := range o.Rows {
			if r.State == state && r.Kind == l[p.Oper].Kind {
				slow(o, l, r.Next, append(slices.Clone(picks), p), tell)
			}
		}
	}
}

func TestFinds(t *testing.T) {
	var c chance
	o := register()
	none, more := 0, 0
	for range 4000 {
		l := c.some(10)
		if len(l) > 6 {
			continue
		}
		o.Init = c.below(2)
		var all [][]api.Pick
		slow(o, l, o.Init, nil, func(p []api.Pick) { all = append(all, p) })
		got, e := search.Search(o, l)
		n, ce := search.Count(o, l)
		ok, le := search.Lin(o, l)
		if n != len(all) || ce != api.OK || ok != (n > 0) || le != api.OK || (e == api.OK) != ok || (e == api.ErrMiss) == ok {
			t.Fatal(l, n, len(all), e)
		}
		if ok && !slices.Equal(got, all[0]) || !ok && len(got) > 0 {
			t.Fatal(l, got, all[0])
		}
		if n == 0 {
			none++
		}
		if n > 1 {
			more++
		}
		if len(l) < 6 {
			longer, _ := search.Count(o, append(slices.Clone(l), op(9, c.below(4), 9999, -1, -1)))
			if longer < n {
				t.Fatal(l, n, longer)
			}
		}
	}
	if none < 300 || more < 300 {
		t.Error("too few of one kind:", none, more)
	}
}

// TestLong: twenty operations at the same time, of which one can't be.
func TestLong(t *testing.T) {
	o := register()
	var l []api.Oper
	for i := range 19 {
		l = append(l, op(1+i, i%2, i, 9000+i, 9))
	}
	l = append(l, op(99, 2, 19, 20, 5))
	if ok, e := search.Lin(o, l); ok || e != api.OK {
		t.Error(ok, e)
	}
	l[19].Result = 1
	if got, e := search.Search(o, l); e != api.OK || !witness.Is(o, l, got) {
		t.Error(got, e)
	}
}
