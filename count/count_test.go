package count_test

import (
	"math"
	"testing"

	"replevin/api"
	"replevin/count"
	"replevin/moves"
	"replevin/numbering"
	"replevin/oper"
	"replevin/places"
	"replevin/states"
	"replevin/times"
)

func size(ops, states int) numbering.Size { return numbering.Size{Ops: ops, States: states} }

func op(process, kind, start, end, result int) api.Oper {
	return api.Oper{Process: process, Kind: kind, Start: start, End: end, Result: result}
}

// row tells operations one behind the other in time, of which the last ones are pending.
func row(ended, pending int) []api.Oper {
	var l []api.Oper
	for i := range ended {
		l = append(l, op(1, 0, 2*i, 2*i+1, 0))
	}
	for i := range pending {
		l = append(l, op(2+i, 0, 1000+i, -1, -1))
	}
	return l
}

func TestParts(t *testing.T) {
	for i, x := range []struct {
		s                            numbering.Size
		pairs, ended                 int
		places, times, states, moves int
	}{
		{size(0, 1), 0, 0, 0, 0, 2, 0}, {size(2, 3), 1, 1, 6, 1, 13, 7 + 12}, {size(5, 2), 10, 5, 105, 100, 13, 55}, {size(64, 32), 2016, 0, 258112, 2016 * 2016, 1 + 65*497, 64 * 2 * 64 * 32},
		{size(3, 2), 2017, 4, 21, 0, 9, 0}, {size(3, 2), -1, -1, 21, 0, 9, 0}, {size(3, 2), math.MaxInt, math.MaxInt, 21, 0, 9, 0}, {size(3, 2), math.MinInt, math.MinInt, 21, 0, 9, 0}, {size(3, 2), 2016, 3, 21, 6048, 9, 21}, {size(1, 1), 9, 0, 1, 0, 3, 2},
		{size(-1, 1), 1, 0, 0, 0, 0, 0}, {size(65, 1), 1, 1, 0, 0, 0, 0}, {size(1, 0), 1, 1, 0, 0, 0, 0}, {size(1, 33), 1, 1, 0, 0, 0, 0}, {size(math.MaxInt, math.MaxInt), 1, 1, 0, 0, 0, 0},
	} {
		if got := [4]int{count.Places(x.s), count.Times(x.s, x.pairs), count.States(x.s), count.Moves(x.s, x.ended)}; got != [4]int{x.places, x.times, x.states, x.moves} {
			t.Errorf("%d: %v", i, got)
		}
	}
}

func TestAll(t *testing.T) {
	for i, x := range []struct {
		s    numbering.Size
		l    []api.Oper
		want int
		e    api.Errno
	}{
		{size(0, 1), nil, 2, api.OK}, {size(2, 2), row(0, 2), 6 + 0 + 7 + 16, api.OK}, {size(2, 2), row(1, 1), 6 + 1 + 7 + 13, api.OK},
		{size(1, 2), row(0, 2), 0, api.ErrArg}, {size(2, 2), row(1, 0), 0, api.ErrArg}, {size(1, 1), []api.Oper{{}}, 0, api.ErrArg}, {size(0, 0), nil, 0, api.ErrArg}, {size(65, 1), row(0, 65), 0, api.ErrArg}, {size(5001, 1), make([]api.Oper, 5001), 0, api.ErrArg},
		{size(29, 1), row(0, 29), 29 + 29*29*28 + 31 + 29*2*29, api.OK}, {size(29, 2), row(0, 29), 29 + 29*29*28 + 61 + 29*2*58, api.ErrBig}, {size(28, 3), row(28, 0), 28 + 28*28*27 + 378*378 + 1 + 29*4 + 28*85, api.OK}, {size(28, 4), row(28, 0), 28 + 28*28*27 + 378*378 + 1 + 29*7 + 28*113, api.ErrBig}, {size(30, 1), row(0, 30), 30 + 30*30*29 + 32 + 30*2*30, api.ErrBig},
		{size(0, 32), nil, 498, api.OK}, {size(20, 22), row(0, 20), 20 + 20*20*19 + 1 + 21*232 + 20*2*440, api.OK}, {size(20, 23), row(0, 20), 20 + 20*20*19 + 1 + 21*254 + 20*2*460, api.ErrBig}, {size(64, 1), row(64, 0), 258112 + 2016*2016 + 66 + 64*65, api.ErrBig},
	} {
		if got := count.All(x.s, x.l); got != x.want {
			t.Errorf("%d: All %d, not %d", i, got, x.want)
		}
		if e := count.Fits(x.s, x.l); e != x.e {
			t.Errorf("%d: Fits %d", i, e)
		}
	}
}

// chance tells numbers that look like chance, always the same ones.
type chance uint64

func (c *chance) below(n int) int {
	*c = *c*6364136223846793005 + 1442695040888963407
	return int(uint64(*c)>>33) % n
}

func TestClauses(t *testing.T) {
	var c chance
	for range 300 {
		o := api.Object{States: 1 + c.below(5), Kinds: 1, Rows: []api.Row{{}}}
		var l []api.Oper
		for i := range c.below(9) {
			x := op(1+i, 0, 3*i, -1, -1)
			if c.below(3) > 0 {
				x.End, x.Result = 3*i+1+3*c.below(4), 0
			}
			l = append(l, x)
		}
		s := moves.Size(o, l)
		pairs := oper.Pairs(l)
		parts := [4]int{len(places.Clauses(s)), len(times.Clauses(s, pairs)), len(states.Clauses(s, 0)), len(moves.Clauses(o, l))}
		if got := [4]int{count.Places(s), count.Times(s, len(pairs)), count.States(s), count.Moves(s, len(l)-len(oper.Pending(l)))}; got != parts {
			t.Fatal(l, got, parts)
		}
		if got := count.All(s, l); got != parts[0]+parts[1]+parts[2]+parts[3] {
			t.Fatal(l, got)
		}
	}
}

// TestFits: with one operation less, or one state less, what fits still does.
func TestFits(t *testing.T) {
	for n := range 65 {
		for m := 1; m <= 32; m++ {
			for _, l := range [][]api.Oper{row(n, 0), row(0, n)} {
				if count.Fits(size(n, m), l) != api.OK {
					continue
				}
				if n > 0 && count.Fits(size(n-1, m), l[:n-1]) != api.OK || m > 1 && count.Fits(size(n, m-1), l) != api.OK {
					t.Fatal(n, m)
				}
			}
		}
	}
}
