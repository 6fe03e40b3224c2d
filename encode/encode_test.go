package encode_test

import (
	"slices"
	"testing"

	"replevin/api"
	"replevin/cnf"
	"replevin/count"
	"replevin/encode"
	"replevin/moves"
	"replevin/numbering"
	"replevin/oper"
	"replevin/places"
	"replevin/search"
	"replevin/solve"
	"replevin/states"
	"replevin/times"
)

func op(process, kind, start, end, result int) api.Oper {
	return api.Oper{Process: process, Kind: kind, Start: start, End: end, Result: result}
}

func same(a, b [][]int) bool { return slices.EqualFunc(a, b, slices.Equal[[]int]) }

// flag: kind 0 sets it, kind 1 tells it, kind 2 clears it, if it is set.
func flag() api.Object {
	return api.Object{States: 2, Kinds: 3, Rows: []api.Row{
		{State: 0, Kind: 0, Next: 1, Result: 0}, {State: 0, Kind: 1, Next: 0, Result: 0}, {State: 1, Kind: 0, Next: 1, Result: 0}, {State: 1, Kind: 1, Next: 1, Result: 1}, {State: 1, Kind: 2, Next: 0, Result: 5},
	}}
}

func some() []api.Oper { return []api.Oper{op(1, 0, 0, 2, 0), op(2, 1, 1, -1, -1), op(1, 1, 3, 4, 1)} }

// pendings tells operations that are pending.
func pendings(n int) []api.Oper {
	var l []api.Oper
	for i := range n {
		l = append(l, op(1+i, 0, i, -1, -1))
	}
	return l
}

func TestConcat(t *testing.T) {
	a, b := [][]int{{1, 2}, nil}, [][]int{{3}}
	got := encode.Concat(a, nil, b, a)
	if !same(got, [][]int{{1, 2}, nil, {3}, {1, 2}, nil}) || len(encode.Concat()) > 0 || len(encode.Concat(nil, nil)) > 0 {
		t.Error(got)
	}
	got[0][0], got[2][0] = 9, 9
	if a[0][0] != 1 || b[0][0] != 3 || got[3][0] != 1 {
		t.Error("Concat shares memory with what it was given")
	}
}

func TestErrors(t *testing.T) {
	one := api.Object{States: 1, Kinds: 1}
	for i, x := range []struct {
		o api.Object
		l []api.Oper
		e api.Errno
	}{
		{api.Object{}, nil, api.ErrArg}, {api.Object{}, pendings(65), api.ErrArg}, {one, []api.Oper{{}}, api.ErrArg}, {one, make([]api.Oper, 5001), api.ErrArg}, {one, pendings(65), api.ErrBig}, {one, pendings(64), api.ErrBig}, {one, pendings(30), api.ErrBig}, {one, pendings(29), api.OK}, {flag(), pendings(29), api.ErrBig}, {flag(), pendings(28), api.OK},
	} {
		f, e := encode.Encode(x.o, x.l)
		if e != x.e || e != api.OK && (f.Vars != 0 || len(f.Clauses) > 0) {
			t.Errorf("%d: %d", i, e)
		}
		if names := encode.Names(x.o, x.l); (len(names) > 0) != (e == api.OK) {
			t.Errorf("%d: %v", i, names)
		}
		if e != api.OK && encode.Says(x.o, x.l, nil) {
			t.Errorf("%d: Says", i)
		}
	}
}

func TestEncode(t *testing.T) {
	f, e := encode.Encode(api.Object{States: 1, Kinds: 1}, nil)
	if e != api.OK || !cnf.Same(f, api.Formula{Vars: 1, Clauses: [][]int{{1}, {1}}}) {
		t.Error(f, e)
	}
	o, l := flag(), some()
	o.Init = 1
	f, e = encode.Encode(o, l)
	s := numbering.Size{Ops: 3, States: 2}
	want := slices.Concat(places.Clauses(s), times.Clauses(s, oper.Pairs(l)), states.Clauses(s, 1), moves.Clauses(o, l))
	if e != api.OK || f.Vars != 20 || !same(f.Clauses, want) || len(want) != count.All(s, l) {
		t.Error(f, e)
	}
	if at, e := cnf.Check(f); e != api.OK {
		t.Error(at, e)
	}
}

func TestNames(t *testing.T) {
	want := []string{"place 0 0", "place 0 1", "place 1 0", "place 1 1", "in 0", "in 1", "state 0 0", "state 0 1", "state 1 0", "state 1 1", "state 2 0", "state 2 1"}
	if got := encode.Names(flag(), pendings(2)); !slices.Equal(got, want) {
		t.Error(got)
	}
	names := encode.Names(flag(), pendings(28))
	if len(names) != 28*28+28+29*2 || names[27] != "place 0 27" || names[len(names)-1] != "state 28 1" {
		t.Error(len(names))
	}
}

// truths puts together the truths of an order, of In, and of states.
func truths(s numbering.Size, order []int, in []bool, row []int) []bool {
	m, _ := places.Truths(s, order)
	copy(m[s.Ops*s.Ops:], in)
	r, _ := states.Truths(s, row)
	copy(m[s.Ops*s.Ops+s.Ops:], r[s.Ops*s.Ops+s.Ops:])
	return m
}

func TestSays(t *testing.T) {
	o, l := flag(), some()
	s := numbering.Size{Ops: 3, States: 2}
	for i, x := range []struct {
		order []int
		in    []bool
		row   []int
		want  bool
	}{
		{[]int{0, 1, 2}, []bool{true, true, true}, []int{0, 1, 1, 1}, true}, {[]int{1, 0, 2}, []bool{true, true, true}, []int{0, 0, 1, 1}, true}, {[]int{0, 2, 1}, []bool{true, false, true}, []int{0, 1, 1, 1}, true}, {[]int{0, 1, 2}, []bool{true, true, true}, []int{0, 1, 1, 0}, false},
		{[]int{0, 1, 2}, []bool{true, true, false}, []int{0, 1, 1, 1}, false}, {[]int{2, 0, 1}, []bool{true, true, true}, []int{0, 0, 1, 1}, false}, {[]int{0, 1, 2}, []bool{true, true, true}, []int{1, 1, 1, 1}, false},
	} {
		m := truths(s, x.order, x.in, x.row)
		if got := encode.Says(o, l, m); got != x.want {
			t.Errorf("%d: %t", i, got)
		}
		if encode.Says(o, l, m[1:]) || encode.Says(o, l, append(slices.Clone(m), false)) || encode.Says(o, l, nil) {
			t.Errorf("%d: of other truths", i)
		}
	}
	one := api.Object{States: 1, Kinds: 1}
	for n, want := range map[int]bool{29: true, 30: false} {
		order := make([]int, n)
		for i := range order {
			order[i] = i
		}
		if got := encode.Says(one, pendings(n), truths(numbering.Size{Ops: n, States: 1}, order, make([]bool, n), make([]int, n+1))); got != want {
			t.Error(n, got)
		}
	}
	set := flag()
	set.Rows[3].Result = 2
	if encode.Says(set, l, truths(s, []int{0, 1, 2}, []bool{true, true, true}, []int{0, 1, 1, 1})) {
		t.Error("what ended with another result moves")
	}
}

// chance tells numbers that look like chance, always the same ones.
type chance uint64

func (c *chance) below(n int) int {
	*c = *c*6364136223846793005 + 1442695040888963407
	return int(uint64(*c)>>33) % n
}

// some tells operations of a flag; at most so many events.
func (c *chance) some(most int) []api.Oper {
	var l []api.Event
	open := map[int]int{}
	for range c.below(most + 1) {
		p := 1 + c.below(3)
		x := api.Event{What: api.Invoke, Process: p, N: c.below(3)}
		if kind, ok := open[p]; ok {
			x = api.Event{What: api.Return, Process: p, N: []int{0, c.below(2), 5}[kind]}
			delete(open, p)
		} else {
			open[p] = x.N
		}
		l = append(l, x)
	}
	ops, _ := oper.Of(l)
	return ops
}

// TestSaysSo goes through all truths of two operations at most.
func TestSaysSo(t *testing.T) {
	var c chance
	for range 40 {
		l := c.some(4)
		if len(l) > 2 {
			continue
		}
		o := flag()
		o.Init = c.below(2)
		f, _ := encode.Encode(o, l)
		m := make([]bool, f.Vars)
		for bits := range 1 << f.Vars {
			for i := range m {
				m[i] = bits>>i&1 == 1
			}
			if cnf.Holds(f, m) != encode.Says(o, l, m) {
				t.Fatal(l, m)
			}
		}
	}
}

// TestThere: the formula holds somewhere just if there is a linearization.
func TestThere(t *testing.T) {
	var c chance = 9
	yes, no := 0, 0
	for range 800 {
		l := c.some(16)
		o := flag()
		o.Init = c.below(2)
		f, e := encode.Encode(o, l)
		if e != api.OK || len(f.Clauses) != count.All(moves.Size(o, l), l) {
			t.Fatal(l, e)
		}
		lin, _ := search.Lin(o, l)
		r, e := solve.Solve(f, api.Tune{Restart: 50, Keep: 500, Decay: 5}, api.MaxBudget)
		if e != api.OK || (r.Kind == api.Sat) != lin || (r.Kind == api.Unsat) == lin {
			t.Fatal(l, r.Kind, lin)
		}
		if lin {
			yes++
			if !encode.Says(o, l, r.Model) {
				t.Fatal(l, r.Model)
			}
		} else {
			no++
		}
	}
	if yes < 100 || no < 100 {
		t.Error("too few of one kind:", yes, no)
	}
}
