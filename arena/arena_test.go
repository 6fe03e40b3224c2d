package arena_test

import (
	"math"
	"slices"
	"testing"

	"replevin/api"
	"replevin/arena"
)

func TestNone(t *testing.T) {
	for _, a := range []*arena.Arena{nil, {}} {
		at, e := a.Put(0, nil, true)
		if at != 0 || e != api.ErrNil || a.Swap(0, 0, 0) != api.ErrNil || a.Drop(0) != api.ErrNil {
			t.Error("an arena that was not made does something")
		}
		if a.Id(0) != 0 || len(a.Lits(0)) > 0 || a.Learnt(0) || len(a.All()) > 0 || len(a.Compact()) > 0 || a.Size() != 0 {
			t.Error("an arena that was not made has something")
		}
		if _, e := a.Put(1, []int{1}, false); e != api.ErrNil || a.Size() != 0 {
			t.Error("an arena that was not made takes something")
		}
	}
}

func TestPut(t *testing.T) {
	wide := make([]int, 1001)
	for i := range wide {
		wide[i] = i + 1
	}
	a := arena.New()
	for i, x := range []struct {
		id   int
		lits []int
		at   int
		e    api.Errno
	}{
		{0, []int{0}, 0, api.ErrArg}, {-1, nil, 0, api.ErrArg}, {api.MaxId + 1, nil, 0, api.ErrArg}, {1, []int{0}, 0, api.ErrLit},
		{1, []int{1, 1}, 0, api.ErrDup}, {1, wide, 0, api.ErrBig}, {1, []int{api.MaxVars + 1}, 0, api.ErrLit},
		{9, []int{3, -1}, 0, api.OK}, {9, []int{2}, 5, api.OK}, {api.MaxId, nil, 9, api.OK}, {1, []int{1, -1, api.MaxVars}, 12, api.OK}, {2, wide[:1000], 18, api.OK}, {3, nil, 1021, api.OK},
	} {
		if at, e := a.Put(x.id, x.lits, i%2 == 0); at != x.at || e != x.e {
			t.Errorf("%d: %d, %d", i, at, e)
		}
	}
	if a.Size() != 1024 || !slices.Equal(a.All(), []int{0, 5, 9, 12, 18, 1021}) {
		t.Error(a.Size(), a.All())
	}
}

// made tells an arena of four clauses, at 0, 5, 9 and 15.
func made() *arena.Arena {
	a := arena.New()
	a.Put(7, []int{3, -1}, false)
	a.Put(8, []int{2}, true)
	a.Put(3, []int{6, 5, 4}, true)
	a.Put(9, nil, false)
	return a
}

func TestTells(t *testing.T) {
	a := made()
	for at, want := range map[int]struct {
		id     int
		lits   []int
		learnt bool
	}{0: {7, []int{3, -1}, false}, 5: {8, []int{2}, true}, 9: {3, []int{6, 5, 4}, true}, 15: {9, nil, false}, 1: {}, 3: {}, 18: {}, -1: {}, math.MaxInt: {}, math.MinInt: {}} {
		if a.Id(at) != want.id || !slices.Equal(a.Lits(at), want.lits) || a.Learnt(at) != want.learnt {
			t.Errorf("at %d: %d, %v, %t", at, a.Id(at), a.Lits(at), a.Learnt(at))
		}
	}
	if a.Size() != 18 || !slices.Equal(a.All(), []int{0, 5, 9, 15}) {
		t.Error(a.Size(), a.All())
	}
	lits := a.Lits(0)
	lits[0] = 9
	_ = append(lits, 77, 78, 79)
	a.All()[0] = 9
	if !slices.Equal(a.Lits(0), []int{3, -1}) || a.Id(5) != 8 || !slices.Equal(a.All(), []int{0, 5, 9, 15}) {
		t.Error("an arena shares memory with what it told")
	}
	given := []int{1, 2}
	at, _ := a.Put(1, given, false)
	given[0] = 5
	if !slices.Equal(a.Lits(at), []int{1, 2}) {
		t.Error("an arena keeps what it was given")
	}
}

func TestSwap(t *testing.T) {
	a := made()
	for i, x := range []struct {
		at, i, j int
		e        api.Errno
		lits     []int
	}{
		{9, 0, 2, api.OK, []int{4, 5, 6}}, {9, 1, 1, api.OK, []int{4, 5, 6}}, {9, 2, 1, api.OK, []int{4, 6, 5}},
		{9, 0, 3, api.ErrArg, []int{4, 6, 5}}, {9, -1, 0, api.ErrArg, []int{4, 6, 5}}, {9, 3, 0, api.ErrArg, []int{4, 6, 5}}, {9, 0, -1, api.ErrArg, []int{4, 6, 5}},
		{15, 0, 0, api.ErrArg, nil}, {10, 0, 0, api.ErrId, nil}, {-1, 0, 0, api.ErrId, nil}, {18, 0, 0, api.ErrId, nil}, {10, -1, 9, api.ErrId, nil},
		{9, math.MaxInt, math.MinInt, api.ErrArg, []int{4, 6, 5}},
	} {
		if e := a.Swap(x.at, x.i, x.j); e != x.e || !slices.Equal(a.Lits(x.at), x.lits) {
			t.Errorf("%d: %d, %v", i, e, a.Lits(x.at))
		}
	}
}

func TestDrop(t *testing.T) {
	a := made()
	for i, x := range []struct {
		at int
		e  api.Errno
	}{{5, api.OK}, {5, api.ErrId}, {4, api.ErrId}, {-1, api.ErrId}, {18, api.ErrId}, {15, api.OK}} {
		if e := a.Drop(x.at); e != x.e {
			t.Errorf("%d: %d", i, e)
		}
	}
	if a.Id(5) != 0 || len(a.Lits(5)) > 0 || a.Learnt(5) || a.Swap(5, 0, 0) != api.ErrId || a.Size() != 18 || !slices.Equal(a.All(), []int{0, 9}) {
		t.Error(a.All(), a.Size())
	}
	if at, e := a.Put(4, []int{1}, true); at != 18 || e != api.OK || a.Size() != 22 {
		t.Error(at, e)
	}
}

func TestCompact(t *testing.T) {
	a := made()
	told := a.Lits(9)
	a.Drop(0)
	a.Drop(15)
	if got := a.Compact(); !slices.Equal(got, []int{5, 9}) {
		t.Error(got)
	}
	if a.Size() != 10 || !slices.Equal(a.All(), []int{0, 4}) || !slices.Equal(told, []int{6, 5, 4}) {
		t.Error(a.Size(), a.All(), told)
	}
	if a.Id(0) != 8 || !a.Learnt(0) || !slices.Equal(a.Lits(0), []int{2}) || a.Id(4) != 3 || !a.Learnt(4) || !slices.Equal(a.Lits(4), []int{6, 5, 4}) || a.Id(5) != 0 || a.Id(9) != 0 {
		t.Error("other clauses")
	}
	if at, e := a.Put(1, []int{5}, false); at != 10 || e != api.OK || a.Learnt(10) || !slices.Equal(a.Lits(10), []int{5}) {
		t.Error(at, e)
	}
	if got := a.Compact(); !slices.Equal(got, []int{0, 4, 10}) || a.Size() != 14 {
		t.Error(got, a.Size())
	}
	for _, at := range a.All() {
		a.Drop(at)
	}
	if len(a.Compact()) > 0 || a.Size() != 0 || len(a.All()) > 0 {
		t.Error("something is left")
	}
	if at, e := a.Put(1, []int{5}, false); at != 0 || e != api.OK {
		t.Error(at, e)
	}
}

// TestKeeps holds an arena against a list of clauses, through many calls.
func TestKeeps(t *testing.T) {
	type clause struct {
		at, id int
		lits   []int
		learnt bool
	}
	var list []clause
	a, n, size := arena.New(), 1, 0
	for round := range 3000 {
		n = (n*7919 + 13) % 100003
		switch {
		case n%7 < 4:
			lits := []int{n + 1, -n - 2, n + 3}[:n%4]
			at, e := a.Put(n+1, lits, n%2 == 0)
			if at != size || e != api.OK {
				t.Fatal(round, at, e)
			}
			list = append(list, clause{at, n + 1, lits, n%2 == 0})
			size += 3 + len(lits)
		case n%7 < 6 && len(list) > 0:
			k := n % len(list)
			if a.Drop(list[k].at) != api.OK {
				t.Fatal(round)
			}
			list = slices.Delete(list, k, k+1)
		case n%7 == 6:
			was := a.Compact()
			size = 0
			for i := range list {
				if was[i] != list[i].at {
					t.Fatal(round, was)
				}
				list[i].at = size
				size += 3 + len(list[i].lits)
			}
		}
		all := a.All()
		if a.Size() != size || len(all) != len(list) {
			t.Fatal(round, a.Size(), size)
		}
		for i, c := range list {
			if all[i] != c.at || a.Id(c.at) != c.id || a.Learnt(c.at) != c.learnt || !slices.Equal(a.Lits(c.at), c.lits) {
				t.Fatal(round, c)
			}
		}
	}
}
