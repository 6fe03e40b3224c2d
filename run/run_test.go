package run_test

import (
	"math"
	"slices"
	"testing"

	"replevin/api"
	"replevin/run"
)

// register tells its value, 0 or 1: kinds 0 and 1 write, kind 2 reads; kind 3 reads 1 alone.
func register() api.Object {
	return api.Object{States: 2, Kinds: 4, Rows: []api.Row{
		{State: 0, Kind: 0, Next: 0, Result: 9}, {State: 0, Kind: 1, Next: 1, Result: 9}, {State: 0, Kind: 2, Next: 0, Result: 0},
		{State: 1, Kind: 0, Next: 0, Result: 9}, {State: 1, Kind: 1, Next: 1, Result: 9}, {State: 1, Kind: 2, Next: 1, Result: 1}, {State: 1, Kind: 3, Next: 1, Result: 1},
	}}
}

func op(kind, end, result int) api.Oper {
	return api.Oper{Process: 1, Kind: kind, End: end, Result: result}
}

// some are: write 1, read 1, a read that is pending, a write of 0 that is pending, a read of 1 alone, an unknown kind.
func some() []api.Oper {
	return []api.Oper{op(1, 3, 9), op(2, 5, 1), op(2, -1, -1), op(0, -1, -1), op(3, -1, 0), op(7, -1, -1)}
}

func pick(x ...int) []api.Pick {
	var out []api.Pick
	for i := 0; i < len(x); i += 2 {
		out = append(out, api.Pick{Oper: x[i], Result: x[i+1]})
	}
	return out
}

func TestStep(t *testing.T) {
	o := register()
	for i, x := range []struct {
		state, kind, result, next int
		e                         api.Errno
	}{
		{0, 1, 9, 1, api.OK}, {1, 2, 1, 1, api.OK}, {1, 0, 9, 0, api.OK}, {1, 2, 0, 0, api.ErrPlay}, {0, 3, 1, 0, api.ErrPlay}, {0, 3, 0, 0, api.ErrPlay}, {0, 4, 0, 0, api.ErrPlay}, {0, -1, 0, 0, api.ErrPlay},
		{2, 0, 9, 0, api.ErrState}, {-1, 0, 9, 0, api.ErrState}, {math.MaxInt, 9, 9, 0, api.ErrState}, {math.MinInt, 0, 0, 0, api.ErrState},
	} {
		if next, e := run.Step(o, x.state, x.kind, x.result); next != x.next || e != x.e {
			t.Errorf("%d: %d, %d", i, next, e)
		}
	}
	if next, e := run.Step(api.Object{}, 0, 0, 0); next != 0 || e != api.ErrState {
		t.Error(next, e)
	}
}

func TestPicks(t *testing.T) {
	o, l := register(), some()
	for i, x := range []struct {
		state     int
		picks     []api.Pick
		end, at   int
		e         api.Errno
		statesBut []int
	}{
		{0, nil, 0, 0, api.OK, []int{0}}, {1, nil, 1, 0, api.OK, []int{1}}, {0, pick(0, 9, 1, 1), 1, 2, api.OK, []int{0, 1, 1}}, {0, pick(0, 9, 2, 1, 3, 9), 0, 3, api.OK, []int{0, 1, 1, 0}}, {1, pick(4, 1, 3, 9, 2, 0), 0, 3, api.OK, nil},
		{0, pick(0, 9, 6, 0), 0, 1, api.ErrArg, nil}, {0, pick(-1, 9), 0, 0, api.ErrArg, nil}, {0, pick(math.MinInt, 9), 0, 0, api.ErrArg, nil}, {0, pick(0, 9, 0, 9), 0, 1, api.ErrDup, nil}, {0, pick(0, 9, 0, 5), 0, 1, api.ErrDup, nil},
		{0, pick(1, 1), 0, 0, api.ErrPlay, nil}, {0, pick(1, 0), 0, 0, api.ErrPlay, nil}, {0, pick(2, 1), 0, 0, api.ErrPlay, nil}, {0, pick(2, 0, 4, 1), 0, 1, api.ErrPlay, nil}, {0, pick(0, 9, 4, 0), 0, 1, api.ErrPlay, nil}, {0, pick(5, 0), 0, 0, api.ErrPlay, nil},
		{0, pick(0, 8), 0, 0, api.ErrPlay, nil}, {2, pick(9, 9), 0, -1, api.ErrState, nil}, {-1, nil, 0, -1, api.ErrState, nil}, {math.MaxInt, nil, 0, -1, api.ErrState, nil}, {0, pick(0, 9, 2, 1, 2, 1, 9, 9), 0, 2, api.ErrDup, nil},
	} {
		end, at, e := run.From(o, l, x.state, x.picks)
		if end != x.end || at != x.at || e != x.e {
			t.Errorf("%d: %d, %d, %d", i, end, at, e)
		}
		p := o
		p.Init = x.state
		if state, at, e := run.Picks(p, l, x.picks); x.state >= 0 && x.state < 2 && (state != x.end || at != x.at || e != x.e) {
			t.Errorf("%d: Picks %d, %d, %d", i, state, at, e)
		}
		got := run.States(p, l, x.picks)
		if x.statesBut != nil && !slices.Equal(got, x.statesBut) || x.e != api.OK && len(got) > 0 || x.e == api.OK && len(got) != len(x.picks)+1 {
			t.Errorf("%d: States %v", i, got)
		}
	}
	ended := []api.Oper{op(2, -7, 1), op(2, 0, 0)}
	if _, at, e := run.Picks(o, ended, pick(1, 0, 0, 0)); at != 1 || e != api.ErrPlay {
		t.Error("an operation whose End is below -1 ended:", at, e)
	}
}

func TestBadObject(t *testing.T) {
	l := some()
	for i, o := range []api.Object{{}, {States: 1, Kinds: 1, Rows: []api.Row{{State: 1}}}, {States: 1, Kinds: 1, Rows: []api.Row{{Kind: 1}}}, {States: 2, Kinds: 1, Init: 2}} {
		if end, at, e := run.From(o, l, 9, pick(9, 9)); end != 0 || at != -1 || e != api.ErrArg {
			t.Errorf("%d: %d, %d", i, at, e)
		}
		if _, at, e := run.Picks(o, l, nil); at != -1 || e != api.ErrArg {
			t.Errorf("%d: %d, %d", i, at, e)
		}
		for _, order := range [][]int{nil, {0}, {99}} {
			if picks, e := run.Fill(o, l, order); len(picks) > 0 || e != api.ErrArg {
				t.Errorf("%d: %v, %d", i, picks, e)
			}
		}
		if len(run.States(o, l, nil)) > 0 {
			t.Errorf("%d: states", i)
		}
	}
}

func TestFill(t *testing.T) {
	o, l := register(), some()
	for i, x := range []struct {
		order []int
		want  []api.Pick
		e     api.Errno
	}{
		{nil, nil, api.OK}, {[]int{2, 0, 1, 3}, pick(2, 0, 0, 9, 1, 1, 3, 9), api.OK}, {[]int{0, 4, 2}, pick(0, 9, 4, 1, 2, 1), api.OK},
		{[]int{0, 6}, nil, api.ErrArg}, {[]int{-1}, nil, api.ErrArg}, {[]int{0, 2, 0}, nil, api.ErrDup}, {[]int{4}, nil, api.ErrPlay}, {[]int{5}, nil, api.ErrPlay}, {[]int{1}, nil, api.ErrPlay},
		{[]int{1, 9}, nil, api.ErrPlay}, {[]int{9, 1}, nil, api.ErrArg}, {[]int{2, 2, 9}, nil, api.ErrDup}, {[]int{4, 4}, nil, api.ErrPlay}, {[]int{math.MinInt}, nil, api.ErrArg},
	} {
		if got, e := run.Fill(o, l, x.order); !slices.Equal(got, x.want) || e != x.e {
			t.Errorf("%d: %v, %d", i, got, e)
		}
	}
}

// chance tells numbers that look like chance, always the same ones.
type chance uint64

func (c *chance) below(n int) int {
	*c = *c*6364136223846793005 + 1442695040888963407
	return int(uint64(*c)>>33) % n
}

func TestSteps(t *testing.T) {
	var c chance
	o := register()
	runs := 0
	for range 5000 {
		l := some()
		var picks []api.Pick
		var order []int
		for range c.below(5) {
			p := api.Pick{Oper: c.below(7), Result: []int{0, 1, 9}[c.below(3)]}
			picks, order = append(picks, p), append(order, p.Oper)
		}
		end, at, e := run.Picks(o, l, picks)
		filled, fe := run.Fill(o, l, order)
		if (e == api.OK) != (fe == api.OK && slices.Equal(filled, picks)) {
			t.Fatal(picks, e, filled, fe)
		}
		if fe == api.OK {
			if _, n, e := run.Picks(o, l, filled); n != len(order) || e != api.OK {
				t.Fatal(filled, e)
			}
		}
		if e != api.OK {
			continue
		}
		runs++
		states := run.States(o, l, picks)
		if at != len(picks) || states[0] != o.Init || states[len(picks)] != end {
			t.Fatal(picks, states, end)
		}
		for cut := range len(picks) + 1 {
			middle, _, e1 := run.From(o, l, o.Init, picks[:cut])
			last, _, e2 := run.From(o, l, middle, picks[cut:])
			if middle != states[cut] || last != end || e1 != api.OK || e2 != api.OK {
				t.Fatal(picks, cut, middle, last)
			}
		}
		for i, p := range picks {
			if next, e := run.Step(o, states[i], l[p.Oper].Kind, p.Result); next != states[i+1] || e != api.OK {
				t.Fatal(picks, i)
			}
		}
	}
	if runs < 500 {
		t.Error("too few runs:", runs)
	}
}
