package shrink_test

import (
	"math"
	"slices"
	"testing"

	"replevin/api"
	"replevin/event"
	"replevin/histtext"
	"replevin/object"
	"replevin/shrink"
)

func call(p, kind int) api.Event { return api.Event{What: api.Invoke, Process: p, N: kind} }

func ret(p, result int) api.Event { return api.Event{What: api.Return, Process: p, N: result} }

// register tells its value, 0 or 1: kinds 0 and 1 write, kind 2 reads.
func register() api.Object {
	return api.Object{States: 2, Kinds: 3, Rows: []api.Row{
		{State: 0, Kind: 0, Next: 0, Result: 9}, {State: 0, Kind: 1, Next: 1, Result: 9}, {State: 0, Kind: 2, Next: 0, Result: 0},
		{State: 1, Kind: 0, Next: 0, Result: 9}, {State: 1, Kind: 1, Next: 1, Result: 9}, {State: 1, Kind: 2, Next: 1, Result: 1},
	}}
}

func of(l ...api.Event) histtext.Case { return histtext.Case{Object: register(), Events: l} }

func same(a, b histtext.Case) bool {
	return object.Same(a.Object, b.Object) && event.Same(a.Events, b.Events)
}

// row tells operations one behind the other.
func row(n int) []api.Event {
	var l []api.Event
	for range n {
		l = append(l, call(1, 1), ret(1, 9))
	}
	return l
}

func TestErrors(t *testing.T) {
	for i, x := range []struct {
		c histtext.Case
		e api.Errno
	}{
		{histtext.Case{}, api.ErrArg}, {of(api.Event{}), api.ErrWord}, {of(call(1, 3)), api.ErrKind}, {of(ret(1, 0)), api.ErrOpen}, {of(row(21)...), api.ErrBig}, {of(append(row(21), ret(1, 1))...), api.ErrOpen}, {of(append(row(20), call(1, 2), ret(1, 5))...), api.ErrBig},
		{histtext.Case{Object: api.Object{States: 1, Kinds: 1, Rows: []api.Row{{}, {}}}}, api.ErrOrder},
	} {
		if ok, e := shrink.Lin(x.c); ok || e != x.e {
			t.Errorf("%d: Lin %t, %d", i, ok, e)
		}
		if n, e := shrink.Head(x.c); n != 0 || e != x.e {
			t.Errorf("%d: Head %d, %d", i, n, e)
		}
		if p, e := shrink.Part(x.c); e != x.e || !same(p, histtext.Case{}) {
			t.Errorf("%d: Part %v, %d", i, p, e)
		}
	}
}

func TestParts(t *testing.T) {
	for i, x := range []struct {
		l    []api.Event
		head int // 0: there is a linearization
		part []api.Event
	}{
		{nil, 0, nil}, {row(20), 0, nil}, {[]api.Event{call(1, 2), ret(1, 1)}, 2, []api.Event{call(1, 2), ret(1, 1)}},
		{[]api.Event{call(1, 2), ret(1, 1), call(2, 1), ret(2, 9), call(1, 0)}, 2, []api.Event{call(1, 2), ret(1, 1)}}, {[]api.Event{call(3, 0), call(1, 2), ret(3, 9), ret(1, 1), ret(9, 9)}[:4], 4, []api.Event{call(1, 2), ret(1, 1)}},
		{[]api.Event{call(1, 1), ret(1, 9), call(2, 2), ret(2, 0), call(1, 2), ret(1, 5)}, 4, []api.Event{call(1, 1), ret(1, 9), call(2, 2), ret(2, 0)}}, {[]api.Event{call(1, 1), call(2, 2), ret(2, 1), call(2, 2), ret(2, 0), ret(1, 9)}, 5, []api.Event{call(2, 2), ret(2, 1)}},
		{[]api.Event{call(1, 2), call(2, 1), ret(2, 9), call(2, 2), ret(1, 0), ret(2, 0)}, 6, []api.Event{call(2, 1), ret(2, 9), call(2, 2), ret(2, 0)}}, {[]api.Event{call(1, 2), ret(1, 5), call(2, 2), ret(2, 5)}, 2, []api.Event{call(1, 2), ret(1, 5)}},
		{[]api.Event{call(1, 2), call(2, 2), call(3, 1), ret(2, 7), ret(1, 7)}, 4, []api.Event{call(2, 2), ret(2, 7)}},
	} {
		c := of(x.l...)
		ok, e := shrink.Lin(c)
		if ok != (x.head == 0) || e != api.OK {
			t.Errorf("%d: Lin %t, %d", i, ok, e)
		}
		want := api.OK
		if ok {
			want = api.ErrMiss
		}
		if n, e := shrink.Head(c); n != x.head || e != want {
			t.Errorf("%d: Head %d, %d", i, n, e)
		}
		p, e := shrink.Part(c)
		if e != want || !event.Same(p.Events, x.part) || object.Same(p.Object, c.Object) == ok {
			t.Errorf("%d: Part %v, %d", i, p.Events, e)
		}
	}
}

func TestWithout(t *testing.T) {
	l := []api.Event{call(1, 0), call(2, 1), ret(1, 5), call(1, 2), ret(2, 6), call(3, 0)}
	odd := []api.Event{ret(1, 0), call(1, 0), call(1, 1), ret(1, 1), {What: 7, Process: 2}, call(2, 2), {What: 7, Process: 2}, ret(2, 3)}
	for i, x := range []struct {
		l    []api.Event
		ops  []int
		want []api.Event
	}{
		{l, nil, l}, {l, []int{0}, []api.Event{call(2, 1), call(1, 2), ret(2, 6), call(3, 0)}}, {l, []int{1}, []api.Event{call(1, 0), ret(1, 5), call(1, 2), call(3, 0)}}, {l, []int{2}, []api.Event{call(1, 0), call(2, 1), ret(1, 5), ret(2, 6), call(3, 0)}}, {l, []int{3}, l[:5]}, {l, []int{3, 0, 0}, []api.Event{call(2, 1), call(1, 2), ret(2, 6)}}, {l, []int{0, 1, 2, 3}, nil},
		{l, []int{4, -1, math.MaxInt, math.MinInt}, l}, {nil, []int{0}, nil}, {odd, []int{0}, append([]api.Event{odd[0]}, odd[2:]...)}, {odd, []int{1}, append(slices.Clone(odd[:2]), odd[4:]...)}, {odd, []int{2}, append(slices.Clone(odd[:5]), odd[6:]...)},
	} {
		was := slices.Clone(x.l)
		if got := shrink.Without(x.l, x.ops...); !event.Same(got, x.want) || !event.Same(was, x.l) {
			t.Errorf("%d: %v", i, got)
		}
	}
	shrink.Without(l)[0].N = 9
	if l[0].N != 0 {
		t.Error("Without shares memory with what it was given")
	}
	c := of(call(1, 2), ret(1, 1))
	p, _ := shrink.Part(c)
	p.Events[0].N, p.Object.Rows[0].Next = 9, 9
	if c.Events[0].N != 2 || c.Object.Rows[0].Next != 0 {
		t.Error("Part shares memory with what it was given")
	}
}

// chance tells numbers that look like chance, always the same ones.
type chance uint64

func (c *chance) below(n int) int {
	*c = *c*6364136223846793005 + 1442695040888963407
	return int(uint64(*c)>>33) % n
}

// events tells a history of a register.
func (c *chance) events(most int) []api.Event {
	var l []api.Event
	open := map[int]int{}
	for range c.below(most + 1) {
		p := 1 + c.below(3)
		x := call(p, c.below(3))
		if kind, ok := open[p]; ok {
			x = ret(p, []int{9, 9, c.below(2)}[kind])
			delete(open, p)
		} else {
			open[p] = x.N
		}
		l = append(l, x)
	}
	return l
}

// slow is Part, word by word.
func slow(l []api.Event) []api.Event {
	head := func(l []api.Event) []api.Event {
		for n := range len(l) + 1 {
			if ok, _ := shrink.Lin(of(l[:n]...)); !ok {
				return l[:n]
			}
		}
		return nil
	}
	l = head(l)
	n := 0
	for _, x := range l {
		if x.What == api.Invoke {
			n++
		}
	}
	for op := n - 1; op >= 0; op-- {
		less := shrink.Without(l, op)
		if ok, _ := shrink.Lin(of(less...)); !ok {
			l = head(less)
		}
	}
	return l
}

// within tells whether events are among others, in their order.
func within(l, all []api.Event) bool {
	for _, x := range all {
		if len(l) > 0 && l[0] == x {
			l = l[1:]
		}
	}
	return len(l) == 0
}

func TestLeast(t *testing.T) {
	var c chance
	none := 0
	for range 1500 {
		l := c.events(18)
		n, e := shrink.Head(of(l...))
		for k := range len(l) + 1 {
			if ok, _ := shrink.Lin(of(l[:k]...)); ok != (e == api.ErrMiss || k < n) {
				t.Fatal(l, n, k)
			}
		}
		p, e2 := shrink.Part(of(l...))
		if e2 != e {
			t.Fatal(l, e, e2)
		}
		if e != api.OK {
			continue
		}
		none++
		if !event.Same(p.Events, slow(l)) || !within(p.Events, l) {
			t.Fatal(l, p.Events)
		}
		ok, _ := shrink.Lin(p)
		less, _ := shrink.Lin(of(p.Events[:len(p.Events)-1]...))
		if ok || !less {
			t.Fatal(l, p.Events)
		}
	}
	if none < 300 {
		t.Error("too few histories without a linearization:", none)
	}
}
