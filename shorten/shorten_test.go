package shorten_test

import (
	"slices"
	"testing"

	"replevin/api"
	"replevin/arena"
	"replevin/reason"
	"replevin/shorten"
	"replevin/trail"
	"replevin/watch"
)

// put makes an arena of clauses, and a trail of nine variables.
func put(clauses ...[]int) (*arena.Arena, *trail.Trail, []int) {
	a := arena.New()
	var places []int
	for i, c := range clauses {
		at, _ := a.Put(i+1, c, false)
		places = append(places, at)
	}
	l, _ := trail.New(9)
	return a, l, places
}

func TestNone(t *testing.T) {
	a, l, at := put([]int{1})
	l.Imply(1, at[0])
	if !shorten.Self(a, l, nil, -1) || !shorten.Deep(a, l, nil, -1) {
		t.Error("what follows of nothing is not left over")
	}
	for _, x := range []struct {
		a *arena.Arena
		l *trail.Trail
	}{{nil, l}, {a, nil}, {nil, nil}} {
		lits := []int{2, -1, -1}
		got := shorten.Shorten(x.a, x.l, lits)
		if shorten.Self(x.a, x.l, lits, -1) || shorten.Deep(x.a, x.l, lits, -1) || !slices.Equal(got, lits) {
			t.Error("something is left over without an arena, or a trail")
		}
		got[0] = 7
		if lits[0] != 2 {
			t.Error("Shorten shares memory with what it was given")
		}
	}
}

func TestLeftOver(t *testing.T) {
	a, l, at := put([]int{-1, 2}, []int{-2, 3}, []int{-3, -9, 4}, []int{-5, -4, 6}, []int{9}, []int{-6, 7, 8}, []int{-8, 7})
	l.Imply(9, at[4])
	l.Decide(1)
	l.Imply(2, at[0])
	l.Imply(3, at[1])
	l.Imply(4, at[2])
	l.Decide(5)
	l.Imply(6, at[3])
	l.Imply(-7, at[1])
	l.Imply(8, at[5])
	for i, x := range []struct {
		lits       []int
		l          int
		self, deep bool
	}{
		{[]int{-1}, -2, true, true}, {[]int{-1}, -3, false, true}, {[]int{-1}, -4, false, true}, {[]int{-2}, -4, false, true}, {[]int{-3}, -4, true, true},
		{nil, -2, false, false}, {nil, -9, true, true}, {[]int{-2}, -2, false, false}, {[]int{-1}, -1, false, false}, {[]int{-1}, 2, false, false}, {[]int{1}, -2, false, false},
		{[]int{-1}, -6, false, false}, {[]int{-1, -5}, -6, false, true}, {[]int{-4, -5}, -6, true, true}, {[]int{-5}, -6, false, false},
		{[]int{-2, -3}, 7, false, false}, {[]int{-6, 7}, -8, true, true}, {[]int{-6}, -8, false, false}, {[]int{-5, -1, 7}, -8, false, true}, {[]int{-8}, -7, false, false},
		{[]int{-1, 0, 1 << 40}, 0, false, false}, {[]int{-1}, 1 << 40, false, false}, {[]int{-1}, -5, false, false},
	} {
		if got := shorten.Self(a, l, x.lits, x.l); got != x.self {
			t.Errorf("%d: Self %t", i, got)
		}
		if got := shorten.Deep(a, l, x.lits, x.l); got != x.deep {
			t.Errorf("%d: Deep %t", i, got)
		}
	}
	for i, x := range []struct{ lits, want []int }{
		{nil, nil}, {[]int{-3, -2, -1}, []int{-3, -1}}, {[]int{-2, -3, -1}, []int{-2, -1}}, {[]int{-6, -4, -3, -5, -1}, []int{-6, -5, -1}},
		{[]int{-4, -3}, []int{-4, -3}}, {[]int{-3, -4}, []int{-3}}, {[]int{-1, -9, 4, 0}, []int{-1, 4, 0}}, {[]int{-9}, []int{-9}},
	} {
		was := slices.Clone(x.lits)
		if got := shorten.Shorten(a, l, x.lits); !slices.Equal(got, x.want) || !slices.Equal(was, x.lits) {
			t.Errorf("%d: %v", i, got)
		}
	}
}

// TestWrongReasons: of reasons that stand in a ring, or behind, nothing is left over.
func TestWrongReasons(t *testing.T) {
	a, l, at := put([]int{-1, 2}, []int{-2, 1}, []int{3, -4}, []int{-4, 5}, []int{-5, -6, 7}, []int{6, -6}, []int{7, 1})
	l.Decide(8)
	l.Imply(1, at[1])
	l.Imply(2, at[0])
	l.Imply(3, at[2])
	l.Imply(4, 1<<40)
	l.Imply(5, at[2])
	l.Imply(6, at[5])
	l.Imply(7, at[6])
	for i, x := range []struct {
		lits       []int
		l          int
		self, deep bool
	}{
		{nil, -1, false, false}, {nil, -2, false, false}, {[]int{-2}, -1, false, false}, {[]int{-1}, -2, true, true}, {[]int{-4}, -3, false, false},
		{[]int{1}, -7, false, false}, {[]int{-1}, -7, false, false}, {[]int{-8}, -4, false, false}, {[]int{-4}, -5, false, false}, {[]int{-6}, -6, false, false}, {[]int{6}, -6, false, false},
	} {
		if self, deep := shorten.Self(a, l, x.lits, x.l), shorten.Deep(a, l, x.lits, x.l); self != x.self || deep != x.deep {
			t.Errorf("%d: %t, %t", i, self, deep)
		}
	}
}

func TestSubsumes(t *testing.T) {
	clauses := [][]int{{1, 2}, {2, 1, 3}, nil, {1}, {-1, 2}, {2, 2, 1, 0}}
	for i, x := range []struct{ short, want []int }{
		{[]int{1, 2}, []int{0, 1, 5}}, {[]int{2, 1, 2}, []int{0, 1, 5}}, {nil, []int{0, 1, 2, 3, 4, 5}}, {[]int{4}, nil}, {[]int{1}, []int{0, 1, 3, 5}}, {[]int{0, 1}, []int{0, 1, 3, 5}},
	} {
		if got := shorten.Subsumes(x.short, clauses...); !slices.Equal(got, x.want) {
			t.Errorf("%d: %v", i, got)
		}
	}
	if len(shorten.Subsumes(nil)) > 0 {
		t.Error("of no clauses")
	}
}

// chance tells numbers that look like chance, always the same ones.
type chance uint64

func (c *chance) below(n int) int {
	*c = *c*6364136223846793005 + 1442695040888963407
	return int(uint64(*c)>>33) % n
}

// conflict lets a search of some clauses go on up to its first conflict, decided by chance.
func conflict(c *chance) (*arena.Arena, *trail.Trail, int) {
	a := arena.New()
	l, _ := trail.New(9)
	w := watch.New(a, l)
	for i := range 12 + c.below(25) {
		var row []int
		for range 2 + c.below(2) {
			x := (1 + c.below(9)) * (1 - 2*c.below(2))
			if !slices.Contains(row, x) && !slices.Contains(row, -x) {
				row = append(row, x)
			}
		}
		if len(row) == 1 && c.below(8) > 0 {
			continue
		}
		at, _ := a.Put(i+1, row, false)
		w.Attach(at)
	}
	at := w.Propagate()
	for at < 0 && l.Open() > 0 {
		for l.Decide((1+c.below(9))*(1-2*c.below(2))) != api.OK {
		}
		at = w.Propagate()
	}
	return a, l, at
}

// deep is Deep of right reasons, word by word.
func deep(a *arena.Arena, l *trail.Trail, lits []int, x int) bool {
	if l.Value(x) >= 0 || l.Reason(max(x, -x)) < 0 {
		return false
	}
	for _, y := range a.Lits(l.Reason(max(x, -x))) {
		if y != -x && l.Level(max(y, -y)) != 0 && !slices.Contains(lits, y) && !deep(a, l, lits, y) {
			return false
		}
	}
	return true
}

// holds tells whether a clause holds with the truths that are the bits of m.
func holds(c []int, m int) bool {
	return slices.ContainsFunc(c, func(x int) bool { return (m>>max(x-1, -x-1)&1 == 1) == (x > 0) })
}

// models tells with which truths all clauses hold.
func models(a *arena.Arena) []int {
	var out []int
	for m := range 512 {
		if !slices.ContainsFunc(a.All(), func(at int) bool { return !holds(a.Lits(at), m) }) {
			out = append(out, m)
		}
	}
	return out
}

func TestShows(t *testing.T) {
	var c chance
	shorter := 0
	for range 3000 {
		a, l, at := conflict(&c)
		if at < 0 {
			continue
		}
		lits, _ := reason.Learn(a, l, at)
		if c.below(2) == 0 { // any literals that fail will do
			lits = nil
			for _, x := range l.Lits() {
				if c.below(2) == 0 {
					lits = append(lits, -x)
				}
			}
		}
		var want []int
		for i, x := range lits {
			if d := deep(a, l, lits, x); d != shorten.Deep(a, l, lits, x) || shorten.Self(a, l, lits, x) && !d {
				t.Fatal(lits, x)
			} else if i == 0 || !d {
				want = append(want, x)
			}
		}
		got := shorten.Shorten(a, l, lits)
		if !slices.Equal(got, want) || !slices.Equal(shorten.Shorten(a, l, got), got) {
			t.Fatal(lits, got, want)
		}
		for _, m := range models(a) {
			if holds(lits, m) && !holds(got, m) {
				t.Fatal(lits, got, m)
			}
		}
		if len(got) < len(lits) {
			shorter++
		}
	}
	if shorter < 200 {
		t.Error("too few clauses were made shorter:", shorter)
	}
}
