package oper_test

import (
	"math"
	"slices"
	"testing"

	"replevin/api"
	"replevin/event"
	"replevin/oper"
)

func call(p, kind int) api.Event { return api.Event{What: api.Invoke, Process: p, N: kind} }

func ret(p, result int) api.Event { return api.Event{What: api.Return, Process: p, N: result} }

func op(process, kind, start, end, result int) api.Oper {
	return api.Oper{Process: process, Kind: kind, Start: start, End: end, Result: result}
}

func TestOf(t *testing.T) {
	l := []api.Event{call(1, 5), call(3, 0), ret(1, 9), call(2, 2), call(1, 1), ret(3, 0), call(3, 7)}
	want := []api.Oper{op(1, 5, 0, 2, 9), op(3, 0, 1, 5, 0), op(2, 2, 3, -1, -1), op(1, 1, 4, -1, -1), op(3, 7, 6, -1, -1)}
	if got, e := oper.Of(l); !slices.Equal(got, want) || e != api.OK {
		t.Error(got, e)
	}
	for i, x := range []struct {
		l []api.Event
		e api.Errno
	}{
		{nil, api.OK}, {[]api.Event{{}}, api.ErrWord}, {[]api.Event{call(0, 0)}, api.ErrArg}, {[]api.Event{call(1, 0), call(2, 64)}, api.ErrKind}, {[]api.Event{call(1, 0), ret(1, -1)}, api.ErrNum}, {[]api.Event{ret(1, 0)}, api.ErrOpen}, {make([]api.Event, event.Most+1), api.ErrBig},
	} {
		if got, e := oper.Of(x.l); len(got) > 0 || e != x.e {
			t.Errorf("%d: %v, %d", i, got, e)
		}
	}
}

func TestCheck(t *testing.T) {
	first := op(1, 0, 1, 4, 0)
	for i, x := range []struct {
		l  []api.Oper
		at int
		e  api.Errno
	}{
		{nil, 0, api.OK}, {[]api.Oper{op(1, 0, 0, -1, -1)}, 1, api.OK}, {[]api.Oper{op(1000, 63, 9998, 9999, 1000000)}, 1, api.OK}, {[]api.Oper{op(1, 0, 9999, -1, -1)}, 1, api.OK},
		{[]api.Oper{op(0, 64, 0, -1, -1)}, 0, api.ErrArg}, {[]api.Oper{op(1001, 0, 0, -1, -1)}, 0, api.ErrArg}, {[]api.Oper{op(1, 64, -1, 5, 0)}, 0, api.ErrArg}, {[]api.Oper{op(1, 0, 10000, -1, -1)}, 0, api.ErrArg}, {[]api.Oper{op(math.MinInt, 0, math.MaxInt, 5, 5)}, 0, api.ErrArg},
		{[]api.Oper{op(1, 64, 0, -2, 0)}, 0, api.ErrKind}, {[]api.Oper{op(1, -1, 0, -1, -1)}, 0, api.ErrKind},
		{[]api.Oper{op(1, 0, 0, -1, 0)}, 0, api.ErrNum}, {[]api.Oper{op(1, 0, 0, 1, -1)}, 0, api.ErrNum}, {[]api.Oper{op(1, 0, 0, -2, -1)}, 0, api.ErrNum}, {[]api.Oper{op(1, 0, 3, 3, 0)}, 0, api.ErrNum}, {[]api.Oper{op(1, 0, 3, 2, 0)}, 0, api.ErrNum}, {[]api.Oper{op(1, 0, 3, 10000, 0)}, 0, api.ErrNum}, {[]api.Oper{op(1, 0, 3, 4, 1000001)}, 0, api.ErrNum}, {[]api.Oper{op(1, 0, 3, math.MaxInt, 0)}, 0, api.ErrNum},
		{[]api.Oper{first, op(2, 0, 1, 6, 0)}, 1, api.ErrOrder}, {[]api.Oper{first, op(2, 0, 0, 6, 0)}, 1, api.ErrOrder}, {[]api.Oper{first, op(2, 0, 4, 6, 0)}, 1, api.ErrOrder}, {[]api.Oper{first, op(2, 0, 2, 4, 0)}, 1, api.ErrOrder}, {[]api.Oper{first, op(1, 0, 4, 6, 0)}, 1, api.ErrOrder}, {[]api.Oper{first, op(2, 0, 0, 0, 0)}, 1, api.ErrNum},
		{[]api.Oper{first, op(2, 0, 2, -1, -1), op(3, 0, 3, -1, -1)}, 3, api.OK}, {[]api.Oper{first, op(2, 0, 2, 8, 1), op(3, 0, 3, 8, 1)}, 2, api.ErrOrder}, {[]api.Oper{op(2, 0, 0, 9, 0), first, op(3, 0, 9, -1, -1)}, 2, api.ErrOrder},
		{[]api.Oper{first, op(1, 0, 5, 6, 0), op(1, 0, 7, -1, -1)}, 3, api.OK}, {[]api.Oper{first, op(1, 0, 3, 6, 0)}, 1, api.ErrOpen}, {[]api.Oper{first, op(2, 0, 2, -1, -1), op(1, 0, 5, 6, 0), op(2, 0, 7, 8, 0)}, 3, api.ErrOpen}, {[]api.Oper{first, op(1, 0, 5, 9, 0), op(1, 0, 8, -1, -1)}, 2, api.ErrOpen},
		{[]api.Oper{first, first, op(0, 0, 0, 0, 0)}, 1, api.ErrOrder},
	} {
		if at, e := oper.Check(x.l); at != x.at || e != x.e {
			t.Errorf("%d: %d, %d", i, at, e)
		}
	}
	var l []api.Oper
	for i := range 5000 {
		l = append(l, op(1, 0, 2*i, 2*i+1, 0))
	}
	if at, e := oper.Check(l); at != 5000 || e != api.OK {
		t.Error(at, e)
	}
	if at, e := oper.Check(append(l, api.Oper{})); at != 0 || e != api.ErrBig {
		t.Error(at, e)
	}
}

func TestAhead(t *testing.T) {
	for i, x := range []struct {
		a, b api.Oper
		want bool
	}{
		{op(1, 0, 0, 1, 0), op(1, 0, 2, 3, 0), true}, {op(1, 0, 0, 2, 0), op(2, 0, 2, 3, 0), false}, {op(1, 0, 0, 3, 0), op(2, 0, 2, 4, 0), false}, {op(1, 0, 0, -1, -1), op(2, 0, 2, 4, 0), false},
		{op(1, 0, 5, 0, 0), op(2, 0, 1, -1, -1), true}, {op(1, 0, 0, math.MinInt, 0), op(2, 0, 9, -1, -1), false}, {op(1, 0, 9, 3, 0), op(1, 0, 9, 3, 0), true}, {op(1, 0, 0, 0, 0), op(2, 0, math.MaxInt, 0, 0), true},
	} {
		if oper.Ahead(x.a, x.b) != x.want {
			t.Errorf("%d: not %t", i, x.want)
		}
	}
}

func TestPairsFreePending(t *testing.T) {
	l := []api.Oper{op(1, 0, 0, 3, 0), op(2, 0, 1, 5, 0), op(3, 0, 2, -1, -1), op(1, 0, 4, 7, 0), op(2, 0, 6, -1, -1)}
	if got := oper.Pairs(l); !slices.Equal(got, [][2]int{{0, 3}, {0, 4}, {1, 4}}) {
		t.Error(got)
	}
	if got := oper.Pending(l); !slices.Equal(got, []int{2, 4}) {
		t.Error(got)
	}
	for i, x := range []struct {
		done []bool
		want []int
	}{
		{nil, []int{0, 1, 2}}, {[]bool{true}, []int{1, 2, 3}}, {[]bool{false, true}, []int{0, 2}}, {[]bool{true, true}, []int{2, 3, 4}}, {[]bool{true, true, true, true, true, false}, nil},
		{[]bool{false, false, true, true, true, true}, []int{0, 1}}, {[]bool{true, false, false, true, false}, []int{1, 2}},
	} {
		if got := oper.Free(l, x.done); !slices.Equal(got, x.want) {
			t.Errorf("%d: %v", i, got)
		}
	}
	odd := []api.Oper{op(1, 0, 9, 3, 0), op(2, 0, 1, -5, 0), op(0, 0, 4, -1, 7)}
	if got := oper.Pairs(odd); !slices.Equal(got, [][2]int{{0, 0}, {0, 2}}) {
		t.Error(got)
	}
	if got := oper.Free(odd, nil); !slices.Equal(got, []int{1}) {
		t.Error(got)
	}
	if got := oper.Free([]api.Oper{op(1, 0, 0, 0, 0), op(2, 0, 1, 5, 0), op(3, 0, 5, 9, 0), op(4, 0, 6, 9, 0)}, nil); !slices.Equal(got, []int{0}) {
		t.Error(got)
	}
	if got := oper.Free([]api.Oper{op(2, 0, 1, 5, 0), op(3, 0, 5, 9, 0), op(4, 0, 6, 9, 0)}, nil); !slices.Equal(got, []int{0, 1}) {
		t.Error(got)
	}
	if got := oper.Pending(odd); !slices.Equal(got, []int{2}) || len(oper.Pending(nil)) > 0 || len(oper.Pairs(nil)) > 0 || len(oper.Free(nil, []bool{false})) > 0 {
		t.Error(got)
	}
}

func TestSame(t *testing.T) {
	a := []api.Oper{op(1, 2, 3, 4, 5), op(2, 2, 5, -1, -1)}
	for i := range 6 {
		b := slices.Clone(a)
		switch i {
		case 0:
			b[0].Process++
		case 1:
			b[0].Kind++
		case 2:
			b[0].Start--
		case 3:
			b[1].End--
		case 4:
			b[1].Result--
		case 5:
			b = b[:1]
		}
		if oper.Same(a, b) || oper.Same(b, a) {
			t.Error(i)
		}
	}
	if !oper.Same(a, slices.Clone(a)) || !oper.Same(nil, []api.Oper{}) {
		t.Error("the same ones are not")
	}
}

// chance tells numbers that look like chance, always the same ones.
type chance uint64

func (c *chance) below(n int) int {
	*c = *c*6364136223846793005 + 1442695040888963407
	return int(uint64(*c)>>33) % n
}

func TestOrder(t *testing.T) {
	var c chance
	for range 2000 {
		var l []api.Event
		for range c.below(14) {
			p := 1 + c.below(4)
			if slices.Contains(event.Open(l), p) {
				l = append(l, ret(p, c.below(5)))
			} else {
				l = append(l, call(p, c.below(3)))
			}
		}
		ops, e := oper.Of(l)
		if at, e2 := oper.Check(ops); e != api.OK || e2 != api.OK || at != len(ops) || len(oper.Pending(ops)) != len(event.Open(l)) {
			t.Fatal(l, ops)
		}
		pairs := oper.Pairs(ops)
		ahead := func(i, k int) bool { return slices.Contains(pairs, [2]int{i, k}) }
		for i := range ops {
			for k := range ops {
				if ahead(i, k) != oper.Ahead(ops[i], ops[k]) || ahead(i, k) && i >= k {
					t.Fatal(ops, i, k)
				}
				for m := range ops {
					if ahead(i, k) && ahead(k, m) && !ahead(i, m) {
						t.Fatal(ops, i, k, m)
					}
				}
			}
		}
		done := make([]bool, len(ops))
		for range ops {
			free := oper.Free(ops, done)
			if len(free) == 0 {
				t.Fatal(ops, done)
			}
			for i := range ops {
				want := !done[i]
				for k := range ops {
					want = want && (done[k] || !ahead(k, i))
				}
				if want != slices.Contains(free, i) {
					t.Fatal(ops, done, free)
				}
			}
			done[free[c.below(len(free))]] = true
		}
	}
}
