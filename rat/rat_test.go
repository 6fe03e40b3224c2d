package rat_test

import (
	"math"
	"slices"
	"testing"

	"replevin/api"
	"replevin/rat"
)

const big = api.MaxVars + 1

func TestCandidates(t *testing.T) {
	clauses := [][]int{{1, 2}, {-1, 3}, nil, {4, -1}, {0, -2, big}, {1, -1}}
	for pivot, want := range map[int][]int{1: {1, 3, 5}, -1: {0, 5}, 2: {4}, -2: {0}, 9: nil, 0: nil, big: nil, -big: nil, math.MinInt: nil} {
		if got := rat.Candidates(clauses, pivot); !slices.Equal(got, want) {
			t.Errorf("of %d: %v", pivot, got)
		}
	}
}

func TestRefute(t *testing.T) {
	for i, x := range []struct {
		l, candidate []int
		pivot        int
		hints        [][]int
		want         api.Errno
	}{
		{[]int{2}, []int{-1, 2}, 1, nil, api.OK},
		{[]int{2}, []int{-1, 3}, 1, nil, api.ErrRat},
		{[]int{2}, []int{-1, 3}, 1, [][]int{{3, -2}}, api.OK},
		{[]int{2}, []int{-1, 3}, 1, [][]int{{3, 4}, {-4}}, api.OK},
		{[]int{2}, []int{-1, 3}, 1, [][]int{{3, 4}}, api.ErrRat},
		{[]int{2}, []int{-1, 3}, 1, [][]int{{4, 5}}, api.ErrRat},
		{[]int{2}, []int{-1, 3, -3}, 1, nil, api.OK},
		{[]int{2}, []int{3, 3, -1, 0, big}, 1, [][]int{{3}}, api.OK},
		{[]int{-1}, []int{-1}, 1, nil, api.ErrRat},
		{[]int{-1}, []int{-1}, 2, nil, api.OK},
		{[]int{1}, []int{-1}, 2, [][]int{nil}, api.OK},
		{[]int{1}, []int{-1}, 2, nil, api.ErrRat},
		{[]int{3}, []int{0, big}, 0, [][]int{{-3}}, api.OK},
		{[]int{3}, []int{0}, 0, nil, api.ErrRat},
		{[]int{4}, []int{7, 4}, 1, nil, api.OK},
		{[]int{-5}, []int{-1, 5, 6}, 1, [][]int{{5, 6}}, api.OK},
	} {
		l := append(make([]int, 0, 9), x.l...)
		if got := rat.Refute(l, x.candidate, x.pivot, x.hints); got != x.want {
			t.Errorf("%d: %d, not %d", i, got, x.want)
		}
		if was := append(slices.Clone(x.l), make([]int, 9)...); !slices.Equal(l[:9], was[:9]) {
			t.Errorf("%d: what was handed in was changed: %v", i, l[:9])
		}
	}
}

func TestShow(t *testing.T) {
	clauses := [][]int{{-1, 2}, {1, 3}, {-1, -4}, {4, 5}, {-5, 2}}
	none := map[int][][]int{}
	both := map[int][][]int{0: {clauses[3]}, 2: {clauses[3], clauses[4]}, 9: nil}
	for i, x := range []struct {
		c     []int
		ahead [][]int
		each  map[int][][]int
		at    int
		e     api.Errno
	}{
		{[]int{0}, nil, none, -1, api.ErrLit}, {[]int{1, -1}, nil, none, -1, api.ErrClause}, {nil, nil, none, -1, api.ErrClause},
		{[]int{0, 1, -1}, nil, none, -1, api.ErrLit}, {nil, [][]int{nil}, none, -1, api.ErrClause},
		{[]int{2, 1}, [][]int{{2, -3}, {3}}, none, -1, api.OK},
		{[]int{2, 1}, [][]int{{6, 7}}, none, -1, api.ErrHint},
		{[]int{2, 1}, [][]int{{2, -3}}, none, 0, api.OK},
		{[]int{2, 1}, nil, nil, 0, api.OK},
		{[]int{1}, nil, none, 0, api.ErrRat},
		{[]int{1, 4}, nil, map[int][][]int{0: nil}, 0, api.ErrRat},
		{[]int{1, -2}, nil, map[int][][]int{0: nil}, 2, api.ErrRat},
		{[]int{1, -2}, nil, map[int][][]int{0: nil, 2: nil}, 2, api.ErrRat},
		{[]int{1, -2, 4}, nil, map[int][][]int{0: nil, 2: nil}, 2, api.OK},
		{[]int{1, -2, 4}, nil, map[int][][]int{2: nil}, 0, api.ErrRat},
		{[]int{1, 5}, nil, both, 0, api.ErrRat},
		{[]int{1, 2}, nil, map[int][][]int{0: {{2}}, 2: {clauses[4], clauses[3]}}, 2, api.ErrRat},
		{[]int{1, 2}, [][]int{clauses[4], {4, 5, 7}}, map[int][][]int{0: {{2}}, 2: nil}, -1, api.ErrHint},
		{[]int{1, 2}, [][]int{clauses[4], clauses[3]}, map[int][][]int{0: {{-4}}, 2: nil}, 2, api.ErrRat},
		{[]int{1, 2}, [][]int{clauses[4], clauses[3]}, map[int][][]int{0: {{-4}}, 2: {{-4, 5}}}, 2, api.OK},
		{[]int{9}, nil, none, 0, api.OK}, {[]int{-2, 1}, nil, none, 0, api.ErrRat}, {[]int{-3}, nil, map[int][][]int{1: {{1}}}, 1, api.OK},
	} {
		if at, e := rat.Show(clauses, x.c, x.ahead, x.each); at != x.at || e != x.e {
			t.Errorf("%d: %d, %d", i, at, e)
		}
	}
}

func TestFlip(t *testing.T) {
	m := []bool{true, false, true}
	for i, x := range []struct {
		lits []int
		want []bool
	}{
		{nil, m}, {[]int{-1, 2}, []bool{false, true, true}}, {[]int{-1, 1}, m}, {[]int{1, -1}, []bool{false, false, true}},
		{[]int{4, -9, 0, big, math.MinInt}, m}, {[]int{3, -2}, m},
	} {
		if got := rat.Flip(m, x.lits...); !slices.Equal(got, x.want) {
			t.Errorf("%d: %v", i, got)
		}
	}
	rat.Flip(m)[0] = false
	if !m[0] || len(rat.Flip(nil, 1)) != 0 {
		t.Error("Flip shares memory with what it was given")
	}
}

// chance tells numbers that look like chance, always the same ones.
type chance uint64

func (c *chance) below(n int) int {
	*c = *c*6364136223846793005 + 1442695040888963407
	return int(uint64(*c)>>33) % n
}

// clause tells one of at most three literals of four variables.
func (c *chance) clause() []int {
	var row []int
	for v := 1; v <= 4; v++ {
		if s := c.below(4); s < 2 {
			row = append(row, v*(1-2*s))
		}
	}
	if len(row) > 1 && c.below(2) == 0 {
		row[0], row[1] = row[1], row[0]
	}
	return row
}

// allHold tells whether all clauses hold with truths.
func allHold(clauses [][]int, m []bool) bool {
	for _, c := range clauses {
		if !slices.ContainsFunc(c, func(x int) bool { return m[max(x-1, -x-1)] == (x > 0) }) {
			return false
		}
	}
	return true
}

func TestAdds(t *testing.T) {
	var c chance
	added := 0
	for range 30000 {
		clauses := [][]int{}
		for range c.below(6) {
			clauses = append(clauses, c.clause())
		}
		row := c.clause()
		each := map[int][][]int{}
		for i := range clauses {
			each[i] = nil
			if c.below(2) == 0 {
				each[i] = [][]int{clauses[c.below(len(clauses))]}
			}
		}
		at, e := rat.Show(clauses, row, nil, each)
		if e != api.OK {
			continue
		}
		if at != len(rat.Candidates(clauses, row[0])) {
			t.Fatal(clauses, row, at)
		}
		added++
		for n := range 16 {
			m := []bool{n&1 > 0, n&2 > 0, n&4 > 0, n&8 > 0}
			all := append(slices.Clone(clauses), row)
			if allHold(clauses, m) && !allHold(all, m) && !allHold(all, rat.Flip(m, row[0])) {
				t.Fatal(clauses, row, m)
			}
		}
	}
	if added < 1000 {
		t.Error("too few clauses were added:", added)
	}
}
