package witness_test

import (
	"math"
	"slices"
	"testing"

	"replevin/api"
	"replevin/oper"
	"replevin/run"
	"replevin/witness"
)

// register tells its value, 0 or 1: kinds 0 and 1 write, kind 2 reads.
func register() api.Object {
	return api.Object{States: 2, Kinds: 3, Rows: []api.Row{
		{State: 0, Kind: 0, Next: 0, Result: 9}, {State: 0, Kind: 1, Next: 1, Result: 9}, {State: 0, Kind: 2, Next: 0, Result: 0},
		{State: 1, Kind: 0, Next: 0, Result: 9}, {State: 1, Kind: 1, Next: 1, Result: 9}, {State: 1, Kind: 2, Next: 1, Result: 1},
	}}
}

func op(process, kind, start, end, result int) api.Oper {
	return api.Oper{Process: process, Kind: kind, Start: start, End: end, Result: result}
}

func pick(x ...int) []api.Pick {
	var out []api.Pick
	for i := 0; i < len(x); i += 2 {
		out = append(out, api.Pick{Oper: x[i], Result: x[i+1]})
	}
	return out
}

// some are: write 1, behind it read 1, over both a write of 0 that is pending, behind all a read that is pending.
func some() []api.Oper {
	return []api.Oper{op(1, 1, 0, 2, 9), op(2, 0, 1, -1, -1), op(1, 2, 3, 4, 1), op(3, 2, 5, -1, -1)}
}

func TestParts(t *testing.T) {
	l := some()
	odd := []api.Oper{op(1, 0, 5, 3, 0), op(2, 0, 4, -6, 0), op(3, 0, 0, -1, 7)}
	for i, x := range []struct {
		l             []api.Oper
		picks         []api.Pick
		order         int
		missing, left []int
	}{
		{l, nil, -1, []int{0, 2}, []int{1, 3}}, {l, pick(0, 9, 2, 1), -1, nil, []int{1, 3}}, {l, pick(2, 1, 0, 9), 0, nil, []int{1, 3}}, {l, pick(1, 9, 0, 9, 2, 1, 3, 1), -1, nil, nil},
		{l, pick(1, 9, 0, 9, 3, 1, 2, 1), 2, nil, nil}, {l, pick(0, 9, 3, 1), 1, []int{2}, []int{1}}, {l, pick(3, 0), 0, []int{0, 2}, []int{1}}, {l, pick(0, 5, 0, 5, 2, 5), -1, nil, []int{1, 3}},
		{l, pick(4, 0, -1, 0, math.MinInt, 0, 1, 9), -1, []int{0, 2}, []int{3}}, {l, pick(99, 0, 2, 1), 1, []int{0}, []int{1, 3}}, {l, pick(2, 1, 3, 1), 0, []int{0}, []int{1}}, {nil, pick(0, 0), -1, nil, nil},
		{[]api.Oper{op(1, 0, 0, 0, 0), op(2, 0, 1, 2, 0)}, pick(1, 0), 0, []int{0}, nil}, {[]api.Oper{op(1, 0, 0, 1, 0), op(2, 0, 1, 2, 0)}, pick(1, 0), -1, []int{0}, nil},
		{odd, nil, -1, []int{0, 1}, []int{2}}, {odd, pick(0, 0), 0, []int{1}, []int{2}}, {odd, pick(2, 0, 1, 0), 1, []int{0}, nil},
	} {
		if got := witness.Order(x.l, x.picks); got != x.order {
			t.Errorf("%d: Order %d", i, got)
		}
		if got := witness.Missing(x.l, x.picks); !slices.Equal(got, x.missing) {
			t.Errorf("%d: Missing %v", i, got)
		}
		if got := witness.Left(x.l, x.picks); !slices.Equal(got, x.left) {
			t.Errorf("%d: Left %v", i, got)
		}
	}
}

func TestCheck(t *testing.T) {
	o, l := register(), some()
	bad := slices.Clone(l)
	bad[2].Process = 0
	for i, x := range []struct {
		o     api.Object
		l     []api.Oper
		picks []api.Pick
		at    int
		e     api.Errno
	}{
		{o, l, pick(0, 9, 2, 1), 2, api.OK}, {o, l, pick(1, 9, 0, 9, 2, 1), 3, api.OK}, {o, l, pick(0, 9, 2, 1, 1, 9, 3, 0), 4, api.OK}, {o, l, pick(0, 9, 2, 1, 3, 1, 1, 9), 4, api.OK}, {o, nil, nil, 0, api.OK},
		{api.Object{}, l, pick(9, 9), -1, api.ErrArg}, {o, bad, pick(9, 9), -1, api.ErrArg}, {o, make([]api.Oper, 5001), nil, -1, api.ErrArg}, {o, l[1:2], nil, 0, api.OK},
		{o, l, pick(0, 9, 9, 9), 1, api.ErrArg}, {o, l, pick(0, 9, 2, 1, 0, 9), 2, api.ErrDup}, {o, l, pick(0, 9, 1, 9, 2, 1), 2, api.ErrPlay}, {o, l, pick(2, 1), 0, api.ErrPlay}, {o, l, pick(0, 9, 2, 0), 1, api.ErrPlay},
		{o, l, pick(0, 9, 3, 1, 2, 1), 1, api.ErrTime}, {o, l, pick(3, 0), 0, api.ErrTime}, {o, l, pick(3, 0, 2, 1), 1, api.ErrPlay}, {o, l, pick(0, 9), 2, api.ErrMiss}, {o, l, nil, 0, api.ErrMiss}, {o, l, pick(1, 9), 0, api.ErrMiss}, {o, l, pick(0, 9, 1, 9), 2, api.ErrMiss},
	} {
		at, e := witness.Check(x.o, x.l, x.picks)
		if at != x.at || e != x.e || witness.Is(x.o, x.l, x.picks) != (e == api.OK) {
			t.Errorf("%d: %d, %d", i, at, e)
		}
	}
}

// chance tells numbers that look like chance, always the same ones.
type chance uint64

func (c *chance) below(n int) int {
	*c = *c*6364136223846793005 + 1442695040888963407
	return int(uint64(*c)>>33) % n
}

// some tells operations of a register.
func (c *chance) some() []api.Oper {
	var l []api.Event
	open := map[int]int{}
	for range 1 + c.below(9) {
		p := 1 + c.below(3)
		x := api.Event{What: api.Invoke, Process: p, N: c.below(3)}
		if kind, ok := open[p]; ok {
			x = api.Event{What: api.Return, Process: p, N: 9}
			if kind == 2 {
				x.N = c.below(2)
			}
			delete(open, p)
		} else {
			open[p] = x.N
		}
		l = append(l, x)
	}
	ops, _ := oper.Of(l)
	return ops
}

// defines tells whether picks are a linearization, word by word.
func defines(o api.Object, l []api.Oper, picks []api.Pick) bool {
	if _, _, e := run.Picks(o, l, picks); e != api.OK {
		return false
	}
	place := func(i int) int { return slices.IndexFunc(picks, func(p api.Pick) bool { return p.Oper == i }) }
	for i, a := range l {
		if a.End != -1 && place(i) < 0 {
			return false
		}
		for k, b := range l {
			if oper.Ahead(a, b) && place(k) >= 0 && (place(i) < 0 || place(i) > place(k)) {
				return false
			}
		}
	}
	return true
}

func TestDefines(t *testing.T) {
	var c chance
	o := register()
	right := 0
	for range 20000 {
		l := c.some()
		var order []int
		for i := range l {
			if c.below(5) > 0 {
				order = append(order, i)
			}
		}
		for i := range order {
			if c.below(3) == 0 {
				k := c.below(len(order))
				order[i], order[k] = order[k], order[i]
			}
		}
		picks, _ := run.Fill(o, l, order)
		if witness.Is(o, l, picks) != defines(o, l, picks) {
			t.Fatal(l, picks)
		}
		if len(witness.Missing(l, picks))+len(witness.Left(l, picks))+len(picks) != len(l) {
			t.Fatal(l, picks)
		}
		if !witness.Is(o, l, picks) {
			continue
		}
		right++
		for n := range picks {
			if witness.Order(l, picks[:n]) != -1 {
				t.Fatal(l, picks, n)
			}
			for _, i := range witness.Missing(l, picks[:n]) {
				if !slices.ContainsFunc(picks[n:], func(p api.Pick) bool { return p.Oper == i }) {
					t.Fatal(l, picks, n)
				}
			}
		}
	}
	if right < 1000 {
		t.Error("too few linearizations:", right)
	}
}
