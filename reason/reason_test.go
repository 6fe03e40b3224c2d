package reason_test

import (
	"slices"
	"testing"

	"replevin/api"
	"replevin/arena"
	"replevin/clause"
	"replevin/reason"
	"replevin/rup"
	"replevin/trail"
	"replevin/watch"
)

// put makes an arena of clauses, and a trail of nine variables.
func put(clauses ...[]int) (*arena.Arena, *trail.Trail, []int) {
	a := arena.New()
	var places []int
	for i, c := range clauses {
		at, _ := a.Put(i+1, c, false)
		places = append(places, at)
	}
	l, _ := trail.New(9)
	return a, l, places
}

func TestNone(t *testing.T) {
	a, l, at := put([]int{1, 2}, nil)
	for _, x := range []struct {
		a *arena.Arena
		l *trail.Trail
	}{{nil, l}, {a, nil}, {nil, nil}} {
		if lits, e := reason.Learn(x.a, x.l, at[1]); len(lits) > 0 || e != api.ErrNil {
			t.Error(lits, e)
		}
		if h, ok := reason.Hints(x.a, x.l, nil, at[1]); len(h) > 0 || ok {
			t.Error(h)
		}
	}
	if reason.Level(nil, []int{1}) != 0 || reason.Asserts(nil, []int{1}) || reason.Asserts(nil, nil) {
		t.Error("of no trail")
	}
}

func TestLearn(t *testing.T) {
	a, l, at := put([]int{-1, -2, 3}, []int{-2, -3}, []int{7, 8}, nil, []int{-5}, []int{-5, 6}, []int{-6, -4, -2, -5}, []int{-1, 4})
	a.Drop(at[2])
	for _, p := range []int{at[2], -1, 1, 1000} {
		if _, e := reason.Learn(a, l, p); e != api.ErrId {
			t.Error(p, e)
		}
	}
	if _, e := reason.Learn(a, l, at[0]); e != api.ErrState {
		t.Error(e)
	}
	if lits, e := reason.Learn(a, l, at[3]); len(lits) > 0 || e != api.OK {
		t.Error(lits, e)
	}
	l.Decide(1)
	l.Decide(2)
	if _, e := reason.Learn(a, l, at[0]); e != api.ErrState {
		t.Error(e)
	}
	l.Imply(3, at[0])
	if lits, e := reason.Learn(a, l, at[1]); !slices.Equal(lits, []int{-2, -1}) || e != api.OK {
		t.Error(lits, e)
	}
	if _, e := reason.Learn(a, l, at[0]); e != api.ErrState {
		t.Error(e)
	}
	l.Back(0)
	l.Imply(5, 0)
	l.Imply(6, at[5])
	l.Decide(1)
	l.Imply(4, at[7])
	l.Decide(2)
	if lits, e := reason.Learn(a, l, at[6]); !slices.Equal(lits, []int{-2, -4}) || e != api.OK {
		t.Error(lits, e)
	}
	l.Decide(9)
	if lits, e := reason.Learn(a, l, at[6]); !slices.Equal(lits, []int{-2, -4}) || e != api.OK {
		t.Error(lits, e)
	}
	l.Back(1)
	l.Imply(2, 0)
	if lits, e := reason.Learn(a, l, at[4]); len(lits) > 0 || e != api.OK {
		t.Error(lits, e)
	}
}

// TestOneLevel: none of the literals is of the trail's depth, and two are of the greatest level.
func TestOneLevel(t *testing.T) {
	a, l, at := put([]int{-1, -2, -3}, []int{-1, 2}, []int{-4, -2})
	l.Decide(3)
	l.Decide(1)
	l.Imply(2, at[1])
	l.Decide(4)
	if lits, e := reason.Learn(a, l, at[0]); !slices.Equal(lits, []int{-1, -2, -3}) || e != api.OK {
		t.Error(lits, e)
	}
	if lits, e := reason.Learn(a, l, at[2]); !slices.Equal(lits, []int{-4, -2}) || e != api.OK {
		t.Error(lits, e)
	}
}

// TestWrongReasons: of reasons that are not right any answer will do, but there is one.
func TestWrongReasons(t *testing.T) {
	a, l, at := put([]int{1, 2}, []int{-1, -2, 3}, []int{-2, -3, 4}, []int{-3, -4, 1, 2})
	l.Decide(5)
	l.Imply(1, at[3])
	l.Imply(2, at[3])
	l.Imply(3, 1<<40)
	l.Imply(4, at[2])
	for _, conflict := range []int{at[0], at[1], at[2], at[3]} {
		reason.Learn(a, l, conflict)
		reason.Hints(a, l, nil, conflict)
	}
	l.Back(0)
	l.Imply(2, at[0])
	l.Imply(1, at[0])
	l.Imply(3, at[1])
	l.Imply(4, at[2])
	for _, conflict := range []int{at[0], at[1], at[2], at[3]} {
		reason.Hints(a, l, nil, conflict)
	}
	a, l, at = put([]int{1, -2}, []int{2, -1}, []int{-1, -2})
	l.Decide(5)
	l.Imply(1, at[0])
	l.Imply(2, at[1])
	reason.Learn(a, l, at[2])
	reason.Hints(a, l, nil, at[2])
	a, l, at = put([]int{1, 2})
	l.Decide(-1)
	l.Imply(-2, 1<<40)
	reason.Learn(a, l, at[0])
	reason.Hints(a, l, []int{1}, at[0])
}

func TestLevel(t *testing.T) {
	_, l, _ := put()
	l.Imply(1, 0)
	l.Decide(2)
	l.Imply(3, 0)
	l.Decide(-4)
	l.Decide(5)
	for i, x := range []struct {
		lits []int
		want int
	}{
		{nil, 0}, {[]int{5}, 0}, {[]int{5, -5}, 0}, {[]int{5, 4}, 2}, {[]int{4, 5}, 2}, {[]int{2, 3}, 0}, {[]int{3, 5, 2}, 1}, {[]int{5, 3, 4, 1}, 2},
		{[]int{1, 5}, 0}, {[]int{6, 5, 0, 1 << 40}, 0}, {[]int{6, 3, 5}, 1}, {[]int{5, 5, 4, 4, 3}, 2}, {[]int{1, 2}, 0},
	} {
		if got := reason.Level(l, x.lits); got != x.want {
			t.Errorf("%d: %d, not %d", i, got, x.want)
		}
	}
}

func TestAsserts(t *testing.T) {
	_, l, _ := put()
	l.Decide(1)
	l.Decide(2)
	l.Imply(3, 0)
	for i, x := range []struct {
		lits []int
		want bool
	}{
		{nil, false}, {[]int{-3}, true}, {[]int{-2, -1}, true}, {[]int{-1, -2}, false}, {[]int{-2, -3}, false}, {[]int{-2, -2, -1}, true},
		{[]int{2, -1}, false}, {[]int{-2, 1}, false}, {[]int{-2, 4}, false}, {[]int{-2, 0}, false}, {[]int{-1}, false}, {[]int{4}, false}, {[]int{0}, false},
	} {
		if reason.Asserts(l, x.lits) != x.want {
			t.Errorf("%d: not %t", i, x.want)
		}
	}
}

func TestHints(t *testing.T) {
	a, l, at := put([]int{-1, -2, 3}, []int{-3, 4}, []int{-4, -5, -3}, []int{5}, []int{-1, -2}, []int{7, -5}, []int{-1, -5})
	l.Imply(5, at[3])
	l.Imply(7, at[5])
	l.Decide(1)
	l.Decide(2)
	l.Imply(3, at[0])
	l.Imply(4, at[1])
	for i, x := range []struct {
		lits     []int
		conflict int
		want     []int
		ok       bool
	}{
		{[]int{-3}, at[2], []int{at[3], at[1], at[2]}, true}, {[]int{-1, -2}, at[2], []int{at[3], at[0], at[1], at[2]}, true},
		{[]int{-3, -4, -5}, at[2], []int{at[2]}, true}, {[]int{-3, -5}, at[2], []int{at[1], at[2]}, true},
		{[]int{-1}, at[2], nil, false}, {nil, at[2], nil, false}, {nil, at[6], nil, false}, {[]int{-1}, at[6], []int{at[3], at[6]}, true}, {[]int{-1, -2}, 1, nil, false}, {[]int{-1, -2}, -1, nil, false},
		{[]int{-1, -2}, at[1], nil, false}, {[]int{-1, -2}, at[4], []int{at[4]}, true}, {[]int{0, -3, 9}, at[2], []int{at[3], at[1], at[2]}, true},
	} {
		h, ok := reason.Hints(a, l, x.lits, x.conflict)
		if !slices.Equal(h, x.want) || ok != x.ok {
			t.Errorf("%d: %v, %t", i, h, ok)
		}
	}
}

// chance tells numbers that look like chance, always the same ones.
type chance uint64

func (c *chance) below(n int) int {
	*c = *c*6364136223846793005 + 1442695040888963407
	return int(uint64(*c)>>33) % n
}

// conflict lets a search of some clauses go on up to its first conflict, decided by chance.
func conflict(c *chance) (*arena.Arena, *trail.Trail, int) {
	a := arena.New()
	l, _ := trail.New(9)
	w := watch.New(a, l)
	for i := range 10 + c.below(25) {
		var row []int
		for range 1 + c.below(3) + c.below(2)*c.below(2) {
			x := (1 + c.below(9)) * (1 - 2*c.below(2))
			if !slices.Contains(row, x) {
				row = append(row, x)
			}
		}
		if len(row) == 1 && c.below(3) > 0 {
			continue
		}
		at, _ := a.Put(i+1, row, false)
		w.Attach(at)
	}
	at := w.Propagate()
	for at < 0 && l.Open() > 0 {
		for l.Decide((1+c.below(9))*(1-2*c.below(2))) != api.OK {
		}
		at = w.Propagate()
	}
	return a, l, at
}

// slow is Learn, word by word.
func slow(a *arena.Arena, l *trail.Trail, at int) []int {
	lits := clause.Norm(a.Lits(at))
	for {
		var deep []int
		last := 0
		for _, x := range lits {
			if v := max(x, -x); l.Level(v) == l.Depth() {
				deep = append(deep, x)
				if l.Reason(v) >= 0 && (last == 0 || l.Place(v) > l.Place(max(last, -last))) {
					last = x
				}
			}
		}
		if len(deep) < 2 || last == 0 {
			break
		}
		lits, _ = clause.Resolve(lits, a.Lits(l.Reason(max(last, -last))), last)
	}
	lits = slices.DeleteFunc(lits, func(x int) bool { return l.Level(max(x, -x)) == 0 })
	top := 0
	var first []int
	for _, x := range lits {
		if n := l.Level(max(x, -x)); n > top {
			top, first = n, nil
		}
		if l.Level(max(x, -x)) == top {
			first = append(first, x)
		}
	}
	if len(first) == 1 {
		lits = append(first, clause.Without(lits, first[0])...)
	}
	return lits
}

func TestTeaches(t *testing.T) {
	var c chance
	conflicts, empty := 0, 0
	for range 6000 {
		a, l, at := conflict(&c)
		if at < 0 {
			continue
		}
		lits, e := reason.Learn(a, l, at)
		if e != api.OK || !slices.Equal(lits, slow(a, l, at)) {
			t.Fatal(lits, slow(a, l, at), e)
		}
		conflicts++
		if len(lits) == 0 {
			empty++
		}
		deep := slices.ContainsFunc(lits, func(x int) bool { return l.Level(max(x, -x)) == l.Depth() })
		if l.Depth() > 0 && deep && !reason.Asserts(l, lits) {
			t.Fatal(lits)
		}
		hints, ok := reason.Hints(a, l, lits, at)
		if !ok || hints[len(hints)-1] != at {
			t.Fatal(lits, hints)
		}
		var rows [][]int
		for _, p := range hints {
			rows = append(rows, a.Lits(p))
		}
		if used, e := rup.Show(lits, rows); used != len(hints) || e != api.OK {
			t.Fatal(lits, rows, used, e)
		}
	}
	if conflicts < 2000 || empty < 50 {
		t.Error("too few conflicts:", conflicts, empty)
	}
}
