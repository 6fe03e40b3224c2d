package event_test

import (
	"math"
	"slices"
	"testing"

	"replevin/api"
	"replevin/event"
)

func call(p, kind int) api.Event { return api.Event{What: api.Invoke, Process: p, N: kind} }

func ret(p, result int) api.Event { return api.Event{What: api.Return, Process: p, N: result} }

func TestCheck(t *testing.T) {
	for i, x := range []struct {
		l  []api.Event
		at int
		e  api.Errno
	}{
		{nil, 0, api.OK}, {[]api.Event{call(1, 0), ret(1, 0), call(1, 63)}, 3, api.OK}, {[]api.Event{call(1, 0), call(1000, 3), ret(1000, 1000000), ret(1, 0)}, 4, api.OK},
		{[]api.Event{{}}, 0, api.ErrWord}, {[]api.Event{{What: 3, Process: 0, N: -1}}, 0, api.ErrWord}, {[]api.Event{call(1, 0), {What: -1, Process: 1}}, 1, api.ErrWord},
		{[]api.Event{call(0, 64)}, 0, api.ErrArg}, {[]api.Event{call(1001, 0)}, 0, api.ErrArg}, {[]api.Event{call(1, 0), ret(-1, -1)}, 1, api.ErrArg}, {[]api.Event{ret(math.MaxInt, 0)}, 0, api.ErrArg},
		{[]api.Event{call(1, 64)}, 0, api.ErrKind}, {[]api.Event{call(1, -1)}, 0, api.ErrKind}, {[]api.Event{call(1, 0), call(1, 64)}, 1, api.ErrKind}, {[]api.Event{ret(1, -1)}, 0, api.ErrNum}, {[]api.Event{call(1, 1), ret(1, 1000001)}, 1, api.ErrNum},
		{[]api.Event{call(1, 0), call(1, 0)}, 1, api.ErrOpen}, {[]api.Event{ret(1, 0)}, 0, api.ErrOpen}, {[]api.Event{call(1, 0), ret(1, 0), ret(1, 0)}, 2, api.ErrOpen}, {[]api.Event{call(1, 0), ret(2, 0)}, 1, api.ErrOpen},
		{[]api.Event{call(1, 0), call(2, 0), ret(2, 0), call(2, 1), ret(1, 0), call(2, 1), {}}, 5, api.ErrOpen},
	} {
		if at, e := event.Check(x.l); at != x.at || e != x.e {
			t.Errorf("%d: %d, %d", i, at, e)
		}
	}
}

func TestMost(t *testing.T) {
	var l []api.Event
	for len(l) < event.Most {
		l = append(l, call(7, 0), ret(7, 0))
	}
	if at, e := event.Check(l); at != event.Most || e != api.OK {
		t.Error(at, e)
	}
	if at, e := event.Check(append(l, api.Event{})); at != 0 || e != api.ErrBig {
		t.Error(at, e)
	}
}

func TestTells(t *testing.T) {
	odd := api.Event{What: 9, Process: 5, N: 70}
	for i, x := range []struct {
		l     []api.Event
		kinds int
		open  []int
		done  []api.Event
	}{
		{nil, 0, nil, nil}, {[]api.Event{call(1, 0), ret(1, 9)}, 1, nil, []api.Event{call(1, 0), ret(1, 9)}},
		{[]api.Event{call(3, 5), call(2, 0), ret(3, 60), call(1, 2)}, 6, []int{1, 2}, []api.Event{call(3, 5), ret(3, 60)}},
		{[]api.Event{call(3, 5), ret(3, 7), call(3, 4)}, 6, []int{3}, []api.Event{call(3, 5), ret(3, 7)}},
		{[]api.Event{call(5, -7)}, 0, []int{5}, nil}, {[]api.Event{call(5, math.MinInt), odd}, 0, nil, []api.Event{call(5, math.MinInt), odd}}, {[]api.Event{odd, call(5, math.MaxInt)}, 64, []int{5}, []api.Event{odd}},
		{[]api.Event{call(5, 63)}, 64, []int{5}, nil}, {[]api.Event{call(5, 64)}, 64, []int{5}, nil}, {[]api.Event{ret(4, 9), ret(4, 9), odd}, 0, nil, []api.Event{ret(4, 9), ret(4, 9), odd}},
		{[]api.Event{call(-2, 1), call(-2, 2), call(math.MinInt, 0)}, 3, []int{math.MinInt, -2}, []api.Event{call(-2, 1)}},
	} {
		was := slices.Clone(x.l)
		if got := event.Kinds(x.l); got != x.kinds {
			t.Errorf("%d: Kinds %d", i, got)
		}
		if got := event.Open(x.l); !slices.Equal(got, x.open) {
			t.Errorf("%d: Open %v", i, got)
		}
		if got := event.Done(x.l); !slices.Equal(got, x.done) || !slices.Equal(was, x.l) {
			t.Errorf("%d: Done %v", i, got)
		}
	}
}

func TestOf(t *testing.T) {
	l := []api.Event{call(1, 0), call(2, 5), ret(1, 3), {What: 7, Process: 2}, call(1, 1)}
	if got := event.Of(l, 1); !slices.Equal(got, []api.Event{call(1, 0), ret(1, 3), call(1, 1)}) {
		t.Error(got)
	}
	if got := event.Of(l, 2); !slices.Equal(got, []api.Event{call(2, 5), {What: 7, Process: 2}}) || len(event.Of(l, 3)) > 0 || len(event.Of(nil, 1)) > 0 {
		t.Error(got)
	}
	event.Of(l[:1], 1)[0].N = 9
	event.Done(l[2:3])[0].N = 9
	if l[0].N != 0 || l[2].N != 3 {
		t.Error("what is told shares memory with what was given")
	}
}

func TestSame(t *testing.T) {
	a := []api.Event{call(1, 0), ret(1, 3)}
	for i, b := range [][]api.Event{nil, {call(1, 0)}, {call(1, 1), ret(1, 3)}, {call(2, 0), ret(1, 3)}, {ret(1, 0), ret(1, 3)}, {ret(1, 3), call(1, 0)}, {call(1, 0), ret(1, 3), ret(1, 3)}} {
		if event.Same(a, b) || event.Same(b, a) {
			t.Error(i)
		}
	}
	if !event.Same(a, slices.Clone(a)) || !event.Same(nil, []api.Event{}) {
		t.Error("the same ones are not")
	}
}

// chance tells numbers that look like chance, always the same ones.
type chance uint64

func (c *chance) below(n int) int {
	*c = *c*6364136223846793005 + 1442695040888963407
	return int(uint64(*c)>>33) % n
}

func TestForms(t *testing.T) {
	var c chance
	for range 3000 {
		var l []api.Event
		for range c.below(12) {
			l = append(l, api.Event{What: 1 + c.below(2), Process: 1 + c.below(3), N: c.below(3)})
		}
		at, e := event.Check(l)
		for n := range len(l) + 1 {
			head, f := event.Check(l[:n])
			if good := n <= at; good != (f == api.OK) || good && head != n || !good && (head != at || f != e) {
				t.Fatal(l, n, head, f)
			}
		}
		if e != api.OK {
			continue
		}
		for p := 1; p <= 3; p++ {
			for i, x := range event.Of(l, p) {
				if x.What != 1+i%2 || x.Process != p {
					t.Fatal(l, p)
				}
			}
		}
		done := event.Done(l)
		if _, e := event.Check(done); e != api.OK || len(event.Open(done)) > 0 || len(done)+len(event.Open(l)) != len(l) {
			t.Fatal(l, done)
		}
	}
}
