package glue_test

import (
	"math"
	"slices"
	"testing"

	"replevin/glue"
	"replevin/trail"
)

func made() *trail.Trail {
	l, _ := trail.New(9)
	l.Imply(1, 4)
	l.Decide(2)
	l.Imply(-3, 7)
	l.Decide(4)
	l.Decide(5)
	l.Imply(6, 0)
	return l
}

func TestOf(t *testing.T) {
	l := made()
	for i, x := range []struct {
		lits []int
		want int
	}{
		{nil, 0}, {[]int{1}, 0}, {[]int{-1, 2}, 1}, {[]int{2, 3, -2}, 1}, {[]int{2, -4, 3, 6}, 3}, {[]int{5, 6, 7, 0, 1 << 40, math.MinInt}, 1}, {[]int{7, 8}, 0},
	} {
		if got := glue.Of(l, x.lits); got != x.want {
			t.Errorf("%d: %d, not %d", i, got, x.want)
		}
	}
	if glue.Of(nil, []int{1, 2}) != 0 || glue.Of(&trail.Trail{}, []int{1, 2}) != 0 {
		t.Error("of no trail")
	}
}

func TestLocked(t *testing.T) {
	l := made()
	for i, x := range []struct {
		at   int
		lits []int
		want bool
	}{
		{4, []int{1}, true}, {4, []int{-1}, false}, {7, []int{2, -3}, true}, {7, []int{2, 3}, false}, {4, []int{2, -3}, false}, {0, []int{6}, true},
		{7, nil, false}, {7, []int{8, 0, math.MinInt}, false}, {5, []int{1, 2, -3, 4, 5, 6}, false}, {0, []int{2, 4, 5}, false},
	} {
		if glue.Locked(l, x.at, x.lits) != x.want {
			t.Errorf("%d: not %t", i, x.want)
		}
	}
	if glue.Locked(nil, 4, []int{1}) || glue.Locked(&trail.Trail{}, 0, []int{1}) || glue.Locked(nil, -1, []int{1}) {
		t.Error("of no trail")
	}
}

func TestWorse(t *testing.T) {
	for i, x := range []struct {
		a, b glue.Row
		want bool
	}{
		{glue.Row{At: 9, Glue: 3, Width: 3}, glue.Row{At: 1, Glue: 2, Width: 9}, true}, {glue.Row{At: 1, Glue: 2, Width: 9}, glue.Row{At: 9, Glue: 3, Width: 3}, false},
		{glue.Row{At: 9, Glue: 3, Width: 4}, glue.Row{At: 1, Glue: 3, Width: 3}, true}, {glue.Row{At: 1, Glue: 3, Width: 3}, glue.Row{At: 9, Glue: 3, Width: 4}, false},
		{glue.Row{At: 1, Glue: 3, Width: 3}, glue.Row{At: 2, Glue: 3, Width: 3}, true}, {glue.Row{At: 2, Glue: 3, Width: 3}, glue.Row{At: 1, Glue: 3, Width: 3}, false},
		{glue.Row{At: 1}, glue.Row{At: 1, Locked: true}, false}, {glue.Row{At: 1, Locked: true}, glue.Row{At: 1}, false}, {glue.Row{Glue: math.MaxInt}, glue.Row{Glue: math.MinInt}, true},
	} {
		if glue.Worse(x.a, x.b) != x.want {
			t.Errorf("%d: not %t", i, x.want)
		}
	}
}

func row(at, g, width int) glue.Row { return glue.Row{At: at, Glue: g, Width: width} }

func TestForget(t *testing.T) {
	four := []glue.Row{row(40, 5, 5), row(30, 4, 4), row(20, 3, 3), row(10, 2, 2)}
	locked := []glue.Row{{At: 1, Glue: 9, Width: 9, Locked: true}, row(2, 3, 5), row(3, 3, 6), row(4, 3, 6), row(5, 2, 99), row(6, -1, 0)}
	for i, x := range []struct {
		l    []glue.Row
		keep int
		want []int
	}{
		{four, 3, []int{30, 40}}, {four, 4, nil}, {four, 5, nil}, {four, 0, []int{30, 40}}, {four, -1, []int{30, 40}}, {nil, -1, nil}, {nil, 0, nil},
		{four[:3], 2, []int{40}}, {four[:1], 0, nil}, {four[2:], 1, []int{20}}, {four, math.MinInt, []int{30, 40}},
		{locked, 0, []int{2, 3, 4}}, {locked[:4], 3, []int{3, 4}}, {locked[:3], 2, []int{3}}, {locked[:5], 4, []int{3, 4}}, {locked[4:], 0, nil},
	} {
		was := slices.Clone(x.l)
		if got := glue.Forget(x.l, x.keep); !slices.Equal(got, x.want) || !slices.Equal(was, x.l) {
			t.Errorf("%d: %v, not %v", i, got, x.want)
		}
	}
}

// TestForgets: of what may be forgotten the worst goes, and not more than half of all.
func TestForgets(t *testing.T) {
	n := 1
	for range 500 {
		var l []glue.Row
		for at := range n % 30 {
			n = (n*7919 + 13) % 100003
			l = append(l, glue.Row{At: at * 3, Glue: n % 7, Width: n % 5, Locked: n%4 == 0})
		}
		n++
		gone := glue.Forget(l, 5)
		if !slices.IsSorted(gone) || len(gone) > len(l)/2 || len(l) <= 5 && len(gone) > 0 {
			t.Fatal(l, gone)
		}
		free := 0
		for _, a := range l {
			went := slices.Contains(gone, a.At)
			if may := !a.Locked && a.Glue > 2; may {
				free++
			} else if went {
				t.Fatal(l, gone)
			}
			for _, b := range l {
				kept := !b.Locked && b.Glue > 2 && !slices.Contains(gone, b.At)
				if went && kept && glue.Worse(b, a) {
					t.Fatal(a, b, gone)
				}
			}
		}
		if len(l) > 5 && len(gone) != min(free, len(l)/2) {
			t.Fatal(l, gone)
		}
	}
}
