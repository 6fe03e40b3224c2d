package heap_test

import (
	"math"
	"slices"
	"testing"

	"replevin/api"
	"replevin/heap"
)

func TestNone(t *testing.T) {
	for _, h := range []*heap.Heap{nil, {}} {
		h.Halve()
		if h.Bump(1, -1) != api.ErrNil || h.Put(0) != api.ErrNil || h.Bump(1, 1) != api.ErrNil || h.Put(1) != api.ErrNil {
			t.Error("a heap that was not made takes something")
		}
		if h.Score(1) != 0 || h.Take() != 0 || h.Peek() != 0 || h.Has(1) || h.Has(0) || h.Len() != 0 {
			t.Error("a heap that was not made has something")
		}
	}
}

func TestNew(t *testing.T) {
	for _, vars := range []int{-1, api.MaxVars + 1, math.MaxInt, math.MinInt} {
		if h, e := heap.New(vars); h != nil || e != api.ErrArg {
			t.Error(vars, e)
		}
	}
	for _, vars := range []int{0, 1, 7, api.MaxVars} {
		h, e := heap.New(vars)
		if e != api.OK || h.Len() != vars || h.Has(0) || h.Has(vars+1) || h.Has(vars) != (vars > 0) || h.Score(vars) != 0 {
			t.Error(vars, e)
		}
	}
	h, _ := heap.New(0)
	if h.Peek() != 0 || h.Take() != 0 || h.Put(1) != api.ErrLit || h.Bump(1, 1) != api.ErrLit {
		t.Error("of no variables")
	}
}

func TestErrors(t *testing.T) {
	h, _ := heap.New(3)
	for i, x := range []struct {
		v, by int
		e     api.Errno
	}{
		{0, 1, api.ErrLit}, {4, 1, api.ErrLit}, {-1, 1, api.ErrLit}, {math.MaxInt, -1, api.ErrLit}, {math.MinInt, 1, api.ErrLit},
		{1, -1, api.ErrArg}, {1, heap.Top + 1, api.ErrArg}, {1, math.MaxInt, api.ErrArg}, {1, 0, api.OK}, {3, heap.Top, api.OK},
	} {
		if e := h.Bump(x.v, x.by); e != x.e {
			t.Errorf("%d: %d", i, e)
		}
	}
	if h.Score(1) != 0 || h.Score(3) != heap.Top || h.Score(4) != 0 || h.Score(-3) != 0 {
		t.Error("scores")
	}
	if h.Put(1) != api.ErrDup || h.Put(0) != api.ErrLit || h.Put(4) != api.ErrLit || h.Take() != 3 || h.Put(3) != api.OK || h.Put(3) != api.ErrDup {
		t.Error("Put")
	}
}

// all takes all that is in a heap.
func all(h *heap.Heap) []int {
	var out []int
	for h.Len() > 0 {
		best := h.Peek()
		v := h.Take()
		if v != best || h.Has(v) {
			return nil
		}
		out = append(out, v)
	}
	return out
}

func TestOrder(t *testing.T) {
	h, _ := heap.New(3)
	h.Bump(2, 5)
	if got := all(h); !slices.Equal(got, []int{2, 1, 3}) || h.Take() != 0 || h.Peek() != 0 {
		t.Error(got)
	}
	h.Bump(3, 6)
	h.Put(3)
	h.Put(1)
	h.Put(2)
	if got := all(h); !slices.Equal(got, []int{3, 2, 1}) {
		t.Error(got)
	}
}

// TestHalve: what was not the same score may be the same one then, and so stand in another order.
func TestHalve(t *testing.T) {
	h, _ := heap.New(5)
	for v, by := range []int{0, 4, 5, 7, 6, 1} {
		if v > 0 {
			h.Bump(v, by)
		}
	}
	h.Halve()
	for v, want := range []int{0, 2, 2, 3, 3, 0} {
		if h.Score(v) != want {
			t.Error(v, h.Score(v))
		}
	}
	if got := all(h); !slices.Equal(got, []int{3, 4, 1, 2, 5}) {
		t.Error(got)
	}
	h, _ = heap.New(2)
	h.Bump(2, 1)
	h.Halve()
	if h.Peek() != 1 {
		t.Error("the halves are the same, so the least number is the best")
	}
}

func TestTop(t *testing.T) {
	h, _ := heap.New(4)
	h.Bump(4, 3)
	h.Bump(3, 2)
	h.Bump(2, heap.Top)
	if h.Score(2) != heap.Top || h.Score(4) != 3 {
		t.Error("Top itself is not above Top")
	}
	h.Bump(2, 1)
	if h.Score(2) != heap.Top/2 || h.Score(4) != 1 || h.Score(3) != 1 || h.Score(1) != 0 {
		t.Error(h.Score(2), h.Score(4), h.Score(3))
	}
	if got := all(h); !slices.Equal(got, []int{2, 3, 4, 1}) {
		t.Error(got)
	}
	h.Bump(2, heap.Top)
	if h.Score(2) != heap.Top*3/4 || h.Score(3) != 0 {
		t.Error(h.Score(2))
	}
	h.Bump(1, heap.Top)
	h.Bump(1, heap.Top)
	if h.Score(1) != heap.Top || h.Score(2) != heap.Top*3/8 {
		t.Error(h.Score(1), h.Score(2))
	}
}

// TestTies: halving, also by a Bump, makes scores the same that were not; then the lesser number comes first.
func TestTies(t *testing.T) {
	const vars = 30
	n := 1
	for round := range 400 {
		h, _ := heap.New(vars)
		for v := 2; v <= vars; v++ {
			n = (n*7919 + 13) % 100003
			h.Bump(v, n%40)
		}
		if round%2 == 0 {
			h.Bump(1, heap.Top)
			h.Bump(1, 1)
		} else {
			h.Bump(1, 100)
			h.Halve()
		}
		var want []int
		for v := range vars {
			want = append(want, v+1)
		}
		slices.SortStableFunc(want, func(v, w int) int { return h.Score(w) - h.Score(v) })
		if got := all(h); !slices.Equal(got, want) {
			t.Fatal(round, got, want)
		}
	}
}

// TestKeeps holds a heap against a list of scores, through many calls.
func TestKeeps(t *testing.T) {
	const vars = 20
	var scores [vars + 1]int
	in := map[int]bool{}
	h, _ := heap.New(vars)
	for v := 1; v <= vars; v++ {
		in[v] = true
	}
	best := func() int {
		b := 0
		for v := vars; v > 0; v-- {
			if in[v] && (b == 0 || scores[v] >= scores[b]) {
				b = v
			}
		}
		return b
	}
	n := 1
	for round := range 20000 {
		n = (n*7919 + 13) % 1000003
		v := 1 + n%vars
		switch n / vars % 6 {
		case 0, 1:
			by := n % 50
			if n%11 == 0 {
				by = heap.Top / 3
			}
			h.Bump(v, by)
			for scores[v] += by; scores[v] > heap.Top; {
				for i := range scores {
					scores[i] /= 2
				}
			}
		case 2, 3:
			if (h.Put(v) == api.ErrDup) != in[v] {
				t.Fatal(round)
			}
			in[v] = true
		case 4:
			want := best()
			if h.Take() != want {
				t.Fatal(round)
			}
			delete(in, want)
		default:
			if n%7 == 0 {
				h.Halve()
				for i := range scores {
					scores[i] /= 2
				}
			}
		}
		if h.Peek() != best() || h.Len() != len(in) || h.Has(v) != in[v] || h.Score(v) != scores[v] {
			t.Fatal(round, h.Peek(), best(), h.Len(), len(in))
		}
	}
	last := 0
	for _, v := range all(h) {
		if last > 0 && (scores[last] < scores[v] || scores[last] == scores[v] && last > v) {
			t.Fatal(last, v)
		}
		last = v
	}
}
