package local_test

import (
	"math"
	"slices"
	"testing"

	"replevin/api"
	"replevin/event"
	"replevin/histtext"
	"replevin/local"
	"replevin/object"
	"replevin/oper"
	"replevin/run"
	"replevin/search"
	"replevin/witness"
)

func call(object, p, kind int) local.Event {
	return local.Event{Object: object, Event: api.Event{What: api.Invoke, Process: p, N: kind}}
}

func ret(object, p, result int) local.Event {
	return local.Event{Object: object, Event: api.Event{What: api.Return, Process: p, N: result}}
}

// flag: kind 0 sets it, kind 1 tells it.
func flag() api.Object {
	return api.Object{States: 2, Kinds: 2, Rows: []api.Row{{State: 0, Kind: 0, Next: 1, Result: 0}, {State: 0, Kind: 1, Next: 0, Result: 0}, {State: 1, Kind: 0, Next: 1, Result: 0}, {State: 1, Kind: 1, Next: 1, Result: 1}}}
}

// one has one state, and one kind, with result 7.
func one() api.Object { return api.Object{States: 1, Kinds: 1, Rows: []api.Row{{Result: 7}}} }

func of(l ...local.Event) local.History {
	return local.History{Objects: []api.Object{flag(), flag(), one()}, Events: l}
}

func same(a, b histtext.Case) bool {
	return object.Same(a.Object, b.Object) && event.Same(a.Events, b.Events)
}

func pick(x ...int) []api.Pick {
	var out []api.Pick
	for i := 0; i < len(x); i += 2 {
		out = append(out, api.Pick{Oper: x[i], Result: x[i+1]})
	}
	return out
}

func TestCheck(t *testing.T) {
	nine := local.History{Objects: make([]api.Object, 9), Events: []local.Event{{}}}
	for i := range nine.Objects {
		nine.Objects[i] = one()
	}
	eight := local.History{Objects: nine.Objects[:8], Events: []local.Event{call(7, 1, 0)}}
	bad := of(call(9, 0, 0))
	bad.Objects[1].Rows[2].State = 2
	for i, x := range []struct {
		h  local.History
		at int
		e  api.Errno
	}{
		{of(), 0, api.OK}, {of(call(0, 1, 1), call(2, 2, 0), ret(0, 1, 5), call(1, 1, 0)), 4, api.OK}, {eight, 1, api.OK}, {nine, -1, api.ErrArg}, {local.History{}, -1, api.ErrArg}, {local.History{Events: []local.Event{{}}}, -1, api.ErrArg}, {bad, -1, api.ErrArg},
		{of(call(9, 1, 0), local.Event{}), 1, api.ErrWord}, {of(call(0, 0, 0)), 0, api.ErrArg}, {of(call(2, 1, 9), call(0, 1, 0)), 1, api.ErrOpen}, {of(call(0, 1, 64)), 0, api.ErrKind}, {of(call(9, 1, 0), ret(9, 1, -1)), 1, api.ErrNum}, {of(ret(0, 1, 0)), 0, api.ErrOpen}, {of(make([]local.Event, 10001)...), 0, api.ErrBig},
		{of(call(0, 1, 0), call(3, 2, 0)), 1, api.ErrArg}, {of(call(-1, 1, 9)), 0, api.ErrArg}, {of(call(math.MaxInt, 1, 0)), 0, api.ErrArg}, {of(call(math.MinInt, 1, 0)), 0, api.ErrArg}, {of(call(0, 1, 0), ret(1, 1, 0)), 1, api.ErrOrder}, {of(call(0, 1, 0), ret(3, 1, 0)), 1, api.ErrArg}, {of(call(0, 1, 0), ret(0, 1, 0), call(1, 1, 0), ret(0, 1, 0)), 3, api.ErrOrder},
		{of(call(0, 1, 2)), 0, api.ErrKind}, {of(call(2, 1, 1)), 0, api.ErrKind}, {of(call(0, 1, 0), call(2, 2, 0), call(2, 3, 1), call(7, 4, 1)), 2, api.ErrKind}, {of(call(0, 1, 0), call(1, 2, 0), ret(1, 1, 0)), 2, api.ErrOrder},
	} {
		if at, e := local.Check(x.h); at != x.at || e != x.e {
			t.Errorf("%d: %d, %d", i, at, e)
		}
		l, objects := local.Opers(x.h)
		_, e := local.Lin(x.h)
		picks, je := local.Join(x.h)
		if x.e != api.OK && (len(l) > 0 || len(objects) > 0 || e != x.e || len(picks) > 0 || je != x.e || local.Joint(x.h, nil) || !same(local.Part(x.h, 0), histtext.Case{})) {
			t.Errorf("%d: it may not be: %d, %d", i, e, je)
		}
	}
}

func TestParts(t *testing.T) {
	h := of(call(1, 1, 0), call(0, 2, 1), ret(1, 1, 0), call(0, 1, 0), ret(0, 2, 0), call(2, 3, 0))
	for k, want := range map[int]histtext.Case{
		0: {Object: flag(), Events: []api.Event{{What: 1, Process: 2, N: 1}, {What: 1, Process: 1, N: 0}, {What: 2, Process: 2, N: 0}}}, 1: {Object: flag(), Events: []api.Event{{What: 1, Process: 1, N: 0}, {What: 2, Process: 1, N: 0}}},
		2: {Object: one(), Events: []api.Event{{What: 1, Process: 3, N: 0}}}, 3: {}, -1: {}, math.MaxInt: {}, math.MinInt: {},
	} {
		if got := local.Part(h, k); !same(got, want) {
			t.Errorf("%d: %v", k, got)
		}
	}
	p := local.Part(h, 0)
	p.Object.Rows[0].Next, p.Events[0].N = 9, 9
	if h.Objects[0].Rows[0].Next != 1 || h.Events[1].Event.N != 1 {
		t.Error("Part shares memory with what it was given")
	}
	l, objects := local.Opers(h)
	if !oper.Same(l, []api.Oper{{Process: 1, Kind: 0, Start: 0, End: 2}, {Process: 2, Kind: 1, Start: 1, End: 4}, {Process: 1, Kind: 0, Start: 3, End: -1, Result: -1}, {Process: 3, Kind: 0, Start: 5, End: -1, Result: -1}}) || !slices.Equal(objects, []int{1, 0, 0, 2}) {
		t.Error(l, objects)
	}
}

func TestLin(t *testing.T) {
	many := func(n int) []local.Event {
		var l []local.Event
		for i := range n {
			l = append(l, call(i%3, 1+i, 0))
		}
		return l
	}
	for i, x := range []struct {
		l   []local.Event
		lin bool
		e   api.Errno
	}{
		{nil, true, api.OK}, {[]local.Event{call(0, 1, 0), ret(0, 1, 0), call(1, 1, 1), ret(1, 1, 1)}, false, api.OK}, {[]local.Event{call(0, 1, 0), ret(0, 1, 0), call(1, 1, 1), ret(1, 1, 0), call(0, 2, 1), ret(0, 2, 1)}, true, api.OK}, {[]local.Event{call(0, 1, 0), ret(0, 1, 0), call(0, 2, 1), ret(0, 2, 0)}, false, api.OK},
		{[]local.Event{call(2, 1, 0), ret(2, 1, 6)}, false, api.OK}, {many(20), true, api.OK}, {many(21), false, api.ErrBig}, {append(many(20), ret(0, 1, 5)), false, api.OK}, {append(many(21), ret(0, 1, 5)), false, api.ErrBig},
	} {
		h := of(x.l...)
		if lin, e := local.Lin(h); lin != x.lin || e != x.e {
			t.Errorf("%d: %t, %d", i, lin, e)
		}
		want := x.e
		if want == api.OK && !x.lin {
			want = api.ErrMiss
		}
		if picks, e := local.Join(h); e != want || e != api.OK && len(picks) > 0 || e == api.OK && !local.Joint(h, picks) {
			t.Errorf("%d: %v, %d", i, picks, e)
		}
	}
}

func TestJoint(t *testing.T) {
	// Set 0; at the same time tell 1; behind both tell 0, set 1 (pending), tell 1.
	h := of(call(0, 1, 0), call(1, 2, 1), ret(0, 1, 0), ret(1, 2, 0), call(0, 1, 1), call(1, 3, 0), ret(0, 1, 1), call(1, 2, 1), ret(1, 2, 1))
	for i, x := range []struct {
		picks []api.Pick
		want  bool
	}{
		{pick(0, 0, 1, 0, 2, 1, 3, 0, 4, 1), true}, {pick(1, 0, 0, 0, 3, 0, 2, 1, 4, 1), true}, {pick(0, 0, 1, 0, 3, 0, 4, 1, 2, 1), false}, {pick(0, 0, 1, 0, 2, 1, 4, 1, 3, 0), false}, {pick(0, 0, 1, 0, 2, 1, 4, 0), false},
		{pick(1, 0, 2, 1, 0, 0, 3, 0, 4, 1), false}, {pick(0, 0, 2, 1, 1, 0, 3, 0, 4, 1), false}, {pick(0, 0, 1, 0, 3, 0, 4, 1), false}, {pick(0, 0, 1, 0, 2, 1, 3, 0, 4, 1, 4, 1), false}, {pick(0, 0, 1, 0, 2, 1, 3, 0, 4, 1, 5, 0), false}, {pick(-1, 0, 0, 0, 1, 0, 2, 1, 3, 0, 4, 1), false},
		{pick(math.MinInt, 0), false}, {nil, false}, {pick(0, 0, 1, 0, 2, 0, 3, 0, 4, 1), false}, {pick(3, 0, 0, 0, 1, 0, 2, 1, 4, 1), false},
	} {
		if local.Joint(h, x.picks) != x.want {
			t.Errorf("%d: not %t", i, x.want)
		}
	}
	if !local.Joint(of(call(0, 1, 0)), nil) || !local.Joint(of(call(0, 1, 0)), pick(0, 0)) || !local.Joint(of(), nil) {
		t.Error("of what is pending")
	}
}

// chance tells numbers that look like chance, always the same ones.
type chance uint64

func (c *chance) below(n int) int {
	*c = *c*6364136223846793005 + 1442695040888963407
	return int(uint64(*c)>>33) % n
}

// some tells a history of flags; at most so many events.
func (c *chance) some(most int) local.History {
	h := local.History{Objects: []api.Object{flag(), flag(), flag()}[:1+c.below(3)]}
	open := map[int]local.Event{}
	for range c.below(most + 1) {
		p := 1 + c.below(4)
		x := call(c.below(len(h.Objects)), p, c.below(2))
		if was, ok := open[p]; ok {
			x = ret(was.Object, p, was.Event.N*c.below(2))
			delete(open, p)
		} else {
			open[p] = x
		}
		h.Events = append(h.Events, x)
	}
	return h
}

// defines tells whether picks are a joint linearization, word by word.
func defines(h local.History, picks []api.Pick) bool {
	l, objects := local.Opers(h)
	place := func(i int) int { return slices.IndexFunc(picks, func(p api.Pick) bool { return p.Oper == i }) }
	for k, o := range h.Objects {
		own := slices.DeleteFunc(slices.Clone(picks), func(p api.Pick) bool { return objects[p.Oper] != k })
		if _, _, e := run.Picks(o, l, own); e != api.OK {
			return false
		}
	}
	for i, a := range l {
		if a.End >= 0 && place(i) < 0 {
			return false
		}
		for k, b := range l {
			if oper.Ahead(a, b) && place(k) >= 0 && place(i) > place(k) {
				return false
			}
		}
	}
	return true
}

// somehow tells whether some order of some of the operations is a joint linearization.
func somehow(h local.History, l []api.Oper, picks []api.Pick) bool {
	if local.Joint(h, picks) {
		return true
	}
	for i := range l {
		if slices.ContainsFunc(picks, func(p api.Pick) bool { return p.Oper == i }) {
			continue
		}
		for result := range 2 {
			if somehow(h, l, append(slices.Clone(picks), api.Pick{Oper: i, Result: result})) {
				return true
			}
		}
	}
	return false
}

func TestJoins(t *testing.T) {
	var c chance
	yes, no := 0, 0
	for range 4000 {
		h := c.some(16)
		lin, e := local.Lin(h)
		if e != api.OK {
			t.Fatal(h, e)
		}
		all := true
		for k := range h.Objects {
			p := local.Part(h, k)
			l, _ := oper.Of(p.Events)
			ok, _ := search.Lin(p.Object, l)
			all = all && ok
		}
		picks, e := local.Join(h)
		if lin != all || lin != (e == api.OK) || lin == (e == api.ErrMiss) {
			t.Fatal(h, lin, all, e)
		}
		l, objects := local.Opers(h)
		if len(l) < 4 && somehow(h, l, nil) != lin {
			t.Fatal(h, lin)
		}
		if !lin {
			no++
			continue
		}
		yes++
		if !local.Joint(h, picks) || !defines(h, picks) {
			t.Fatal(h, picks)
		}
		for k := range h.Objects {
			var own []int
			for i, o := range objects {
				if o == k {
					own = append(own, i)
				}
			}
			var part []api.Pick
			for _, p := range picks {
				if i := slices.Index(own, p.Oper); i >= 0 {
					part = append(part, api.Pick{Oper: i, Result: p.Result})
				}
			}
			p := local.Part(h, k)
			ops, _ := oper.Of(p.Events)
			if !witness.Is(p.Object, ops, part) {
				t.Fatal(h, k, part)
			}
		}
		if n := len(picks); n > 1 {
			i, k := c.below(n), c.below(n)
			picks[i], picks[k] = picks[k], picks[i]
			if local.Joint(h, picks) != defines(h, picks) {
				t.Fatal(h, picks)
			}
			if local.Joint(h, picks[1:]) != defines(h, picks[1:]) {
				t.Fatal(h, picks[1:])
			}
		}
	}
	if yes < 300 || no < 300 {
		t.Error("too few of one kind:", yes, no)
	}
}
