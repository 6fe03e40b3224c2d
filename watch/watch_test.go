package watch_test

import (
	"math"
	"slices"
	"testing"

	"replevin/api"
	"replevin/arena"
	"replevin/assign"
	"replevin/trail"
	"replevin/units"
	"replevin/watch"
)

func TestNone(t *testing.T) {
	for _, w := range []*watch.Watch{nil, {}} {
		if w.Attach(0) != api.ErrNil || w.Detach(0) != api.ErrNil || len(w.Attached()) > 0 || w.Propagate() != -1 {
			t.Error("a watch that was not made does something")
		}
	}
	l, _ := trail.New(3)
	if watch.New(nil, l) != nil || watch.New(arena.New(), nil) != nil || watch.New(nil, nil) != nil {
		t.Error("a watch of nothing")
	}
	w := watch.New(arena.New(), l)
	if w == nil || w.Propagate() != -1 || len(w.Attached()) > 0 {
		t.Error("something is attached to a new watch")
	}
}

// put makes an arena of clauses, and tells their places.
func put(clauses ...[]int) (*arena.Arena, []int) {
	a := arena.New()
	var places []int
	for i, c := range clauses {
		at, e := a.Put(i+1, c, false)
		if e != api.OK {
			panic("no clause")
		}
		places = append(places, at)
	}
	return a, places
}

func TestAttach(t *testing.T) {
	a, at := put([]int{1, 2}, []int{4}, []int{3, -4, 1}, nil, []int{-3})
	a.Drop(at[4])
	l, _ := trail.New(3)
	l.Decide(2)
	w := watch.New(a, l)
	for i, x := range []struct {
		at     int
		detach bool
		e      api.Errno
		want   []int
	}{
		{at[3], false, api.OK, []int{at[3]}}, {at[0], false, api.OK, []int{at[0], at[3]}}, {at[0], false, api.ErrDup, []int{at[0], at[3]}},
		{at[1], false, api.ErrLit, []int{at[0], at[3]}}, {at[2], false, api.ErrLit, []int{at[0], at[3]}}, {at[4], false, api.ErrId, []int{at[0], at[3]}},
		{1, false, api.ErrId, []int{at[0], at[3]}}, {-1, false, api.ErrId, []int{at[0], at[3]}}, {math.MaxInt, true, api.ErrId, []int{at[0], at[3]}},
		{at[1], true, api.ErrId, []int{at[0], at[3]}}, {at[3], true, api.OK, []int{at[0]}}, {at[3], true, api.ErrId, []int{at[0]}},
		{at[3], false, api.OK, []int{at[0], at[3]}}, {at[0], true, api.OK, []int{at[3]}},
	} {
		e := w.Attach
		if x.detach {
			e = w.Detach
		}
		if got := e(x.at); got != x.e || !slices.Equal(w.Attached(), x.want) {
			t.Errorf("%d: %d, %v", i, got, w.Attached())
		}
	}
}

func TestPropagate(t *testing.T) {
	a, at := put([]int{1, 2}, []int{-1, 3}, []int{-3, -1, 4}, []int{-4, 2}, []int{5}, nil)
	l, _ := trail.New(6)
	w := watch.New(a, l)
	for _, p := range at[:2] {
		w.Attach(p)
	}
	if w.Propagate() != -1 || len(l.Lits()) > 0 {
		t.Error("something follows of nothing")
	}
	l.Decide(-2)
	if w.Propagate() != -1 || !slices.Equal(l.Lits(), []int{-2, 1, 3}) || l.Reason(1) != at[0] || l.Reason(3) != at[1] || l.Reason(2) != -1 || l.Depth() != 1 {
		t.Error(l.Lits(), l.Reason(1), l.Reason(3))
	}
	w.Attach(at[2])
	if w.Propagate() != -1 || !slices.Equal(l.Lits(), []int{-2, 1, 3, 4}) || l.Reason(4) != at[2] {
		t.Error(l.Lits())
	}
	w.Attach(at[3])
	for range 2 {
		if w.Propagate() != at[3] || !slices.Equal(l.Lits(), []int{-2, 1, 3, 4}) {
			t.Error(l.Lits())
		}
	}
	w.Detach(at[3])
	if w.Propagate() != -1 {
		t.Error("what is detached fails")
	}
	l.Back(0)
	w.Detach(at[1])
	w.Attach(at[4])
	l.Decide(-2)
	if w.Propagate() != -1 || len(l.Lits()) != 3 || l.Value(1) != 1 || l.Value(5) != 1 {
		t.Error(l.Lits())
	}
	l.Back(0)
	if w.Propagate() != -1 || !slices.Equal(l.Lits(), []int{5}) || l.Level(5) != 0 {
		t.Error(l.Lits())
	}
	w.Attach(at[5])
	for range 2 {
		if w.Propagate() != at[5] {
			t.Error("an empty clause does not fail")
		}
	}
}

// chance tells numbers that look like chance, always the same ones.
type chance uint64

func (c *chance) below(n int) int {
	*c = *c*6364136223846793005 + 1442695040888963407
	return int(uint64(*c)>>33) % n
}

func (c *chance) lit(vars int) int { return (1 + c.below(vars)) * (1 - 2*c.below(2)) }

// row tells different literals of so many variables.
func (c *chance) row(vars, most int) []int {
	var out []int
	for range c.below(most + 1) {
		if l := c.lit(vars); !slices.Contains(out, l) {
			out = append(out, l)
		}
	}
	return out
}

// held is a watch, and what it is held against.
type held struct {
	t *testing.T
	a *arena.Arena
	l *trail.Trail
	w *watch.Watch
	// attached are the places of what is attached.
	attached []int
}

// propagate holds a Propagate against what units tells.
func (h *held) propagate() {
	var clauses [][]int
	for _, at := range h.attached {
		clauses = append(clauses, h.a.Lits(at))
	}
	before := h.l.Lits()
	depth := h.l.Depth()
	want, _, conflict := units.Propagate(clauses, before)
	at := h.w.Propagate()
	got := h.l.Lits()
	if (at >= 0) != (conflict >= 0) || h.l.Depth() != depth || !slices.Equal(got[:len(before)], before) {
		h.t.Fatal(clauses, before, got, at, conflict)
	}
	if at >= 0 && (!slices.Contains(h.attached, at) || assign.Clause(got, h.a.Lits(at)) != -1) {
		h.t.Fatal(clauses, before, got, at)
	}
	h.reasons(before, got, depth)
	slices.Sort(got)
	slices.Sort(want)
	if at < 0 && !slices.Equal(got, want) {
		h.t.Fatal(clauses, before, got, want)
	}
}

// reasons looks at the reasons of what followed.
func (h *held) reasons(before, got []int, depth int) {
	for i := len(before); i < len(got); i++ {
		v := max(got[i], -got[i])
		at := h.l.Reason(v)
		c := h.a.Lits(at)
		if h.l.Level(v) != depth || !slices.Contains(h.attached, at) || !slices.Contains(c, got[i]) {
			h.t.Fatal(before, got, at)
		}
		for _, x := range c {
			if x != got[i] && !slices.Contains(got[:i], -x) {
				h.t.Fatal(before, got, c)
			}
		}
	}
}

// change does one thing to the trail, or to what is attached.
func (h *held) change(c *chance, vars int) {
	switch c.below(12) {
	case 0, 1, 2:
		h.l.Decide(c.lit(vars))
	case 3:
		h.l.Imply(c.lit(vars), 0)
	case 4, 5:
		h.l.Back(h.l.Depth() - 1 - c.below(3))
	case 6:
		if len(h.attached) > 0 {
			k := c.below(len(h.attached))
			if h.w.Detach(h.attached[k]) != api.OK {
				h.t.Fatal(h.attached[k])
			}
			h.attached = slices.Delete(h.attached, k, k+1)
		}
	case 7, 8:
		all := h.a.All()
		at := all[c.below(len(all))]
		if slices.Contains(h.attached, at) != (h.w.Attach(at) == api.ErrDup) {
			h.t.Fatal(at)
		}
		if !slices.Contains(h.attached, at) {
			h.attached = append(h.attached, at)
		}
	}
}

// TestCloses changes trails and watches in all kinds of ways.
func TestCloses(t *testing.T) {
	var c chance
	for range 4000 {
		vars := 2 + c.below(8)
		l, _ := trail.New(vars)
		h := &held{t: t, a: arena.New(), l: l}
		for i := range 3 + c.below(14) {
			if at, e := h.a.Put(i+1, c.row(vars, 2+c.below(3)), false); e == api.OK && len(h.a.Lits(at)) == 0 && c.below(9) > 0 {
				h.a.Drop(at)
			}
		}
		if len(h.a.All()) == 0 {
			continue
		}
		h.w = watch.New(h.a, l)
		often := 1 + c.below(4)
		for range 60 {
			h.change(&c, vars)
			if c.below(often) == 0 {
				h.propagate()
			}
		}
		attached := slices.Clone(h.attached)
		slices.Sort(attached)
		if !slices.Equal(h.w.Attached(), attached) {
			t.Fatal(h.w.Attached(), attached)
		}
	}
}

// TestLong: a long chain of clauses, there and back.
func TestLong(t *testing.T) {
	const n = 2000
	a := arena.New()
	l, _ := trail.New(n)
	w := watch.New(a, l)
	for v := n; v > 1; v-- {
		at, _ := a.Put(v, []int{-(v - 1), v}, false)
		w.Attach(at)
	}
	for range 3 {
		l.Decide(1)
		if w.Propagate() != -1 || l.Open() != 0 {
			t.Fatal(l.Open())
		}
		if len(l.Back(0)) != n || w.Propagate() != -1 || l.Open() != n {
			t.Fatal(l.Open())
		}
	}
}
