package decode_test

import (
	"math"
	"slices"
	"testing"

	"replevin/api"
	"replevin/brute"
	"replevin/cnf"
	"replevin/decode"
	"replevin/encode"
	"replevin/oper"
	"replevin/search"
	"replevin/solve"
	"replevin/witness"
)

func op(process, kind, start, end, result int) api.Oper {
	return api.Oper{Process: process, Kind: kind, Start: start, End: end, Result: result}
}

func pick(x ...int) []api.Pick {
	var out []api.Pick
	for i := 0; i < len(x); i += 2 {
		out = append(out, api.Pick{Oper: x[i], Result: x[i+1]})
	}
	return out
}

// flag: kind 0 sets it, kind 1 tells it, kind 2 clears it, if it is set.
func flag() api.Object {
	return api.Object{States: 2, Kinds: 3, Rows: []api.Row{
		{State: 0, Kind: 0, Next: 1, Result: 0}, {State: 0, Kind: 1, Next: 0, Result: 0}, {State: 1, Kind: 0, Next: 1, Result: 0}, {State: 1, Kind: 1, Next: 1, Result: 1}, {State: 1, Kind: 2, Next: 0, Result: 5},
	}}
}

func some() []api.Oper { return []api.Oper{op(1, 0, 0, 2, 0), op(2, 1, 1, -1, -1), op(1, 1, 3, 4, 1)} }

// pendings tells operations that are pending.
func pendings(n int) []api.Oper {
	var l []api.Oper
	for i := range n {
		l = append(l, op(1+i, 0, i, -1, -1))
	}
	return l
}

func TestOne(t *testing.T) {
	o := api.Object{States: 1, Kinds: 1, Rows: []api.Row{{Result: 7}}}
	l := []api.Oper{op(1, 0, 0, 1, 7)}
	m := []bool{true, true, true, true}
	if got, e := decode.Decode(o, l, m); !slices.Equal(got, pick(0, 7)) || e != api.OK {
		t.Error(got, e)
	}
	if got, e := decode.Truths(o, l, pick(0, 7)); !slices.Equal(got, m) || e != api.OK {
		t.Error(got, e)
	}
	for i := range m {
		m[i] = false
		if got, e := decode.Decode(o, l, m); len(got) > 0 || e != api.ErrForm {
			t.Error(i, got, e)
		}
		m[i] = true
	}
	if got, e := decode.Truths(flag(), nil, nil); !slices.Equal(got, []bool{true, false}) || e != api.OK {
		t.Error(got, e)
	}
	if got, e := decode.Decode(flag(), nil, []bool{true, false}); len(got) > 0 || e != api.OK {
		t.Error(got, e)
	}
}

func TestErrors(t *testing.T) {
	one := api.Object{States: 1, Kinds: 1}
	for i, x := range []struct {
		o api.Object
		l []api.Oper
		e api.Errno
	}{
		{api.Object{}, nil, api.ErrArg}, {one, []api.Oper{{}}, api.ErrArg}, {one, pendings(65), api.ErrBig}, {one, pendings(30), api.ErrBig}, {flag(), pendings(29), api.ErrBig}, {one, make([]api.Oper, 5001), api.ErrArg},
	} {
		if got, e := decode.Decode(x.o, x.l, nil); len(got) > 0 || e != x.e {
			t.Errorf("%d: Decode %d", i, e)
		}
		if got, e := decode.Truths(x.o, x.l, pick(99, 99)); len(got) > 0 || e != x.e {
			t.Errorf("%d: Truths %d", i, e)
		}
	}
	o, l := flag(), some()
	for i, x := range []struct {
		picks []api.Pick
		e     api.Errno
	}{
		{pick(0, 0, 2, 1), api.OK}, {pick(1, 0, 0, 0, 2, 1), api.OK}, {pick(3, 0), api.ErrArg}, {pick(0, 0, 0, 0), api.ErrDup}, {pick(0, 1), api.ErrPlay}, {pick(2, 1), api.ErrPlay}, {pick(0, 0), api.ErrMiss}, {nil, api.ErrMiss},
	} {
		if got, e := decode.Truths(o, l, x.picks); e != x.e || (len(got) > 0) != (e == api.OK) {
			t.Errorf("%d: %d", i, e)
		}
	}
	late := []api.Oper{op(1, 1, 0, 1, 0), op(2, 1, 2, -1, -1)}
	if _, e := decode.Truths(o, late, pick(1, 0, 0, 0)); e != api.ErrTime {
		t.Error(e)
	}
}

func TestOrder(t *testing.T) {
	for i, x := range []struct {
		n     int
		picks []api.Pick
		want  []int
	}{
		{0, nil, nil}, {3, nil, []int{0, 1, 2}}, {4, pick(2, 0, 0, 0), []int{2, 0, 1, 3}}, {4, pick(9, 0, 3, 0, -1, 0, 3, 5, 1, 0, 4, 0, math.MinInt, 0), []int{3, 1, 0, 2}}, {0, pick(0, 0), nil}, {2, pick(1, 0, 0, 0), []int{1, 0}},
	} {
		if got := decode.Order(make([]api.Oper, x.n), x.picks); !slices.Equal(got, x.want) {
			t.Errorf("%d: %v", i, got)
		}
	}
}

// chance tells numbers that look like chance, always the same ones.
type chance uint64

func (c *chance) below(n int) int {
	*c = *c*6364136223846793005 + 1442695040888963407
	return int(uint64(*c)>>33) % n
}

// some tells operations of a flag; at most so many events.
func (c *chance) some(most int) []api.Oper {
	var l []api.Event
	open := map[int]int{}
	for range c.below(most + 1) {
		p := 1 + c.below(3)
		x := api.Event{What: api.Invoke, Process: p, N: c.below(3)}
		if kind, ok := open[p]; ok {
			x = api.Event{What: api.Return, Process: p, N: []int{0, c.below(2), 5}[kind]}
			delete(open, p)
		} else {
			open[p] = x.N
		}
		l = append(l, x)
	}
	ops, _ := oper.Of(l)
	return ops
}

// TestAllModels: of two operations at most, each model is decoded to a linearization, and each linearization is decoded of a model.
func TestAllModels(t *testing.T) {
	var c chance
	for range 60 {
		l := c.some(4)
		if len(l) > 2 {
			continue
		}
		o := flag()
		o.Init = c.below(2)
		f, _ := encode.Encode(o, l)
		var found [][]api.Pick
		for m := range brute.All(f) {
			picks, e := decode.Decode(o, l, m)
			if e != api.OK || !witness.Is(o, l, picks) {
				t.Fatal(l, m, picks, e)
			}
			if !slices.ContainsFunc(found, func(p []api.Pick) bool { return slices.Equal(p, picks) }) {
				found = append(found, picks)
			}
		}
		if n, _ := search.Count(o, l); n != len(found) {
			t.Fatal(l, n, found)
		}
	}
}

func TestBack(t *testing.T) {
	var c chance = 3
	right := 0
	for range 600 {
		l := c.some(12)
		o := flag()
		o.Init = c.below(2)
		f, _ := encode.Encode(o, l)
		picks, e := search.Search(o, l)
		if e == api.OK {
			m, e := decode.Truths(o, l, picks)
			back, e2 := decode.Decode(o, l, m)
			if e != api.OK || e2 != api.OK || !cnf.Holds(f, m) || !slices.Equal(back, picks) {
				t.Fatal(l, picks, back, e, e2)
			}
			right++
		}
		r, _ := solve.Solve(f, api.Tune{Restart: 50, Keep: 500, Decay: 5}, api.MaxBudget)
		if (r.Kind == api.Sat) != (e == api.OK) {
			t.Fatal(l, r.Kind)
		}
		if r.Kind == api.Sat {
			if got, e := decode.Decode(o, l, r.Model); e != api.OK || !witness.Is(o, l, got) {
				t.Fatal(l, got, e)
			}
		}
	}
	if right < 100 {
		t.Error("too few linearizations:", right)
	}
}
