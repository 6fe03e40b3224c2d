package proof_test

import (
	"math"
	"slices"
	"strconv"
	"strings"
	"testing"

	"replevin/api"
	"replevin/proof"
)

func add(id int, lits, hints []int) api.Step {
	return api.Step{Kind: api.StepAdd, Id: id, Lits: lits, Hints: hints}
}

func del(id int, hints ...int) api.Step {
	return api.Step{Kind: api.StepDelete, Id: id, Hints: hints}
}

// row tells the numbers from 1 to n.
func row(n int) []int {
	l := make([]int, n)
	for i := range l {
		l[i] = i + 1
	}
	return l
}

func TestCheckStep(t *testing.T) {
	for i, x := range []struct {
		s  api.Step
		ok bool
	}{
		{add(1, nil, nil), true}, {add(api.MaxId, []int{1, -2, -1}, []int{-5, api.MaxId, -api.MaxId, 5, 5}), true},
		{add(0, nil, nil), false}, {add(-1, nil, nil), false}, {add(api.MaxId+1, nil, nil), false},
		{add(1, []int{0}, nil), false}, {add(1, []int{1, 1}, nil), false}, {add(1, []int{api.MaxVars, -api.MaxVars}, nil), true},
		{add(1, []int{api.MaxVars + 1}, nil), false}, {add(1, []int{math.MinInt}, nil), false},
		{add(1, row(1000), row(1000)), true}, {add(1, row(1001), nil), false}, {add(1, nil, row(1001)), false},
		{add(1, nil, []int{0}), false}, {add(1, nil, []int{api.MaxId + 1}), false}, {add(1, nil, []int{-api.MaxId - 1}), false},
		{del(0), true}, {del(api.MaxId, 1, 1, api.MaxId), true}, {del(-1), false}, {del(api.MaxId + 1), false},
		{del(1, 0), false}, {del(1, -1), false}, {del(1, api.MaxId+1), false}, {del(1, row(1000)...), true}, {del(1, row(1001)...), false},
		{api.Step{Kind: api.StepDelete, Id: 1, Lits: []int{1}}, false}, {api.Step{}, false}, {api.Step{Kind: 3, Id: 1}, false}, {api.Step{Kind: -1, Id: 1}, false},
	} {
		at, e := proof.Check([]api.Step{del(0), x.s})
		if x.ok && (at != 2 || e != api.OK) || !x.ok && (at != 1 || e != api.ErrArg) {
			t.Errorf("%d: %d, %d", i, at, e)
		}
		if _, e := proof.Print([]api.Step{x.s}); (e == api.OK) != x.ok {
			t.Errorf("%d: printed: %d", i, e)
		}
	}
}

func TestCheckMany(t *testing.T) {
	l := make([]api.Step, api.MaxSteps, api.MaxSteps+1)
	for i := range l {
		l[i].Kind = api.StepDelete
	}
	if at, e := proof.Check(l); at != api.MaxSteps || e != api.OK {
		t.Error(at, e)
	}
	if at, e := proof.Check(append(l, api.Step{})); at != 0 || e != api.ErrBig {
		t.Error(at, e)
	}
	if at, e := proof.Check(nil); at != 0 || e != api.OK {
		t.Error(at, e)
	}
	if s, e := proof.Print(l); s != "" || e != api.ErrBig {
		t.Error(len(s), e)
	}
}

func TestParse(t *testing.T) {
	for _, x := range []struct {
		s    string
		want []api.Step
	}{
		{"", nil}, {"\n \nc 1 x\nc\n", nil},
		{"5 1 -2 0 3 4 0", []api.Step{add(5, []int{1, -2}, []int{3, 4})}},
		{"5 d 1 2 0\n\n0 d 0\n", []api.Step{del(5, 1, 2), del(0)}},
		{"1 0 0\n2\t-7 7 \r 0 -9 9 -9 0\n", []api.Step{add(1, nil, nil), add(2, []int{-7, 7}, []int{-9, 9, -9})}},
		{"10000000 100000 -100000 0 10000000 -10000000 0", []api.Step{add(10000000, []int{100000, -100000}, []int{10000000, -10000000})}},
		{"3 d 3 3 0", []api.Step{del(3, 3, 3)}}, {"9 1 0 0\n3 0 0", []api.Step{add(9, []int{1}, nil), add(3, nil, nil)}},
	} {
		l, at, e := proof.Parse(x.s)
		if !proof.Same(l, x.want) || at != len(x.s) || e != api.OK {
			t.Errorf("%q: %v, %d, %d", x.s, l, at, e)
		}
	}
}

func TestFaults(t *testing.T) {
	for _, x := range []struct {
		s  string
		at int
		e  api.Errno
	}{
		{"x", 0, api.ErrForm}, {" -1 0 0", 1, api.ErrNum}, {"10000001", 0, api.ErrNum}, {"01 0 0", 0, api.ErrForm},
		{"5", 1, api.ErrShort}, {"5 \n1 0 0", 1, api.ErrShort}, {"d 1 0", 0, api.ErrForm},
		{"5 d", 3, api.ErrShort}, {"5 d 1\r\n0", 5, api.ErrShort}, {"5 d -1 0", 4, api.ErrNum}, {"5 d 10000001 0", 4, api.ErrNum}, {"5 d d 0", 4, api.ErrForm},
		{"5 d 0 0", 6, api.ErrRest}, {"5 d 1 0 x", 8, api.ErrRest}, {"5 D 0", 2, api.ErrForm}, {"5 1 d 0", 4, api.ErrForm},
		{"5 1 1 0 0", 4, api.ErrDup}, {"5 1 -1 1 0 0", 7, api.ErrDup}, {"5 100001 0 0", 2, api.ErrNum}, {"5 -100001 0 0", 2, api.ErrNum},
		{"5 1", 3, api.ErrShort}, {"5 1 0", 5, api.ErrShort}, {"5 1 0 7", 7, api.ErrShort}, {"5 1 0 7 0 0", 10, api.ErrRest},
		{"5 1 0 10000001 0", 6, api.ErrNum}, {"5 1 0 -10000001 0", 6, api.ErrNum}, {"5 1 0 -0 0", 6, api.ErrForm},
		{"0 1 0 0", 0, api.ErrNum}, {"1 0 0\n 0 1 0 0 7", 7, api.ErrNum}, {"0 1 0", 5, api.ErrShort}, {"0 1 1 0 0", 4, api.ErrDup}, {"0 0 x 0", 4, api.ErrForm},
		{"1 0 0 7", 6, api.ErrRest}, {"1 0 0\n2 0 0 7\nx", 12, api.ErrRest}, {"1 0\n0", 3, api.ErrShort},
		{"1 99999999999999999999 0 0", 2, api.ErrNum},
	} {
		l, at, e := proof.Parse(x.s)
		if len(l) > 0 || at != x.at || e != x.e {
			t.Errorf("%q: %v, %d, %d", x.s, l, at, e)
		}
		if x.e != api.ErrShort || !strings.Contains(x.s, "\n") {
			if _, again, e := proof.Parse(x.s + "\ny\n5 0 0 0"); again != x.at || e != x.e {
				t.Errorf("%q, and more: %d, %d", x.s, again, e)
			}
		}
	}
}

// texts tells numerals with a blank ahead of each.
func texts(n int) string {
	var b strings.Builder
	for i := range n {
		b.WriteString(" " + strconv.Itoa(i+1))
	}
	return b.String()
}

func TestWide(t *testing.T) {
	w := texts(1000)
	for _, s := range []string{"1" + w + " 0" + w + " 0", "1 d" + w + " 0"} {
		if _, at, e := proof.Parse(s); at != len(s) || e != api.OK {
			t.Error(at, e)
		}
	}
	for i, x := range []struct {
		ahead, last string
		e           api.Errno
	}{
		{"1" + w, "1001 0 0", api.ErrBig}, {"1" + w, "1 0 0", api.ErrBig}, {"1" + w, "100001 0 0", api.ErrNum}, {"1" + w, "x", api.ErrForm},
		{"1 0" + w, "1 0", api.ErrBig}, {"1 0" + w, "10000001 0", api.ErrNum}, {"1 d" + w, "1 0", api.ErrBig}, {"1 d" + w, "-1 0", api.ErrNum},
	} {
		if _, at, e := proof.Parse(x.ahead + " " + x.last); at != len(x.ahead)+1 || e != x.e {
			t.Errorf("%d: %d, %d", i, at, e)
		}
	}
	long := "1 0 0" + strings.Repeat(" ", api.MaxText-5)
	if _, at, e := proof.Parse(long); at != len(long) || e != api.OK {
		t.Error(at, e)
	}
	if l, at, e := proof.Parse(long + " "); len(l) > 0 || at != 0 || e != api.ErrBig {
		t.Error(at, e)
	}
}

func TestPrint(t *testing.T) {
	l := []api.Step{add(5, []int{1, -2}, []int{3, -4}), add(6, nil, nil), del(7, 1, 2), del(0)}
	s, e := proof.Print(l)
	if s != "5 1 -2 0 3 -4 0\n6 0 0\n7 d 1 2 0\n0 d 0\n" || e != api.OK {
		t.Errorf("%q, %d", s, e)
	}
	if back, at, e := proof.Parse(s); !proof.Same(back, l) || at != len(s) || e != api.OK {
		t.Error(back, at, e)
	}
	if s, e := proof.Print(nil); s != "" || e != api.OK {
		t.Error(s, e)
	}
	if s, e := proof.Print([]api.Step{del(0), add(0, nil, nil)}); s != "" || e != api.ErrArg {
		t.Error(s, e)
	}
}

// TestPrintLong: a step "0 d 0" has six bytes, one of Id 10 has seven.
func TestPrintLong(t *testing.T) {
	l := make([]api.Step, api.MaxText/6)
	for i := range l {
		l[i] = del(0)
	}
	for i := range api.MaxText % 6 {
		l[i].Id = 10
	}
	if s, e := proof.Print(l); len(s) != api.MaxText || e != api.OK {
		t.Error(len(s), e)
	}
	l[9].Id = 10
	if s, e := proof.Print(l); s != "" || e != api.ErrBig {
		t.Error(len(s), e)
	}
}

func TestSame(t *testing.T) {
	a := add(1, []int{1, 2}, []int{3})
	for i, b := range []api.Step{add(2, []int{1, 2}, []int{3}), add(1, []int{2, 1}, []int{3}), add(1, []int{1, 2}, []int{-3}), add(1, []int{1, 2}, nil), {Kind: 2, Id: 1, Lits: []int{1, 2}, Hints: []int{3}}} {
		if proof.Same([]api.Step{a}, []api.Step{b}) {
			t.Error(i)
		}
	}
	if !proof.Same([]api.Step{a, del(1)}, []api.Step{add(1, []int{1, 2}, []int{3}), {Kind: 2, Id: 1, Lits: []int{}, Hints: []int{}}}) || proof.Same([]api.Step{a}, []api.Step{a, a}) || !proof.Same(nil, []api.Step{}) {
		t.Error("Same")
	}
}

func TestSplit(t *testing.T) {
	for i, x := range []struct {
		hints, ahead []int
		groups       [][]int
	}{
		{nil, nil, nil}, {[]int{1, 2}, []int{1, 2}, nil}, {[]int{-1}, nil, [][]int{{-1}}},
		{[]int{1, 2, -3, 4, 5, -6, -3, 7, 0}, []int{1, 2}, [][]int{{-3, 4, 5}, {-6}, {-3, 7, 0}}},
		{[]int{math.MinInt, math.MaxInt}, nil, [][]int{{math.MinInt, math.MaxInt}}},
	} {
		was := slices.Clone(x.hints)
		ahead, groups := proof.Split(x.hints)
		all := slices.Concat(append([][]int{ahead}, groups...)...)
		if !slices.Equal(ahead, x.ahead) || !slices.EqualFunc(groups, x.groups, slices.Equal[[]int]) || !slices.Equal(all, was) {
			t.Errorf("%d: %v, %v", i, ahead, groups)
		}
		for _, g := range append(groups, ahead) {
			for k := range g[:cap(g)] {
				g[:cap(g)][k] = 99
			}
		}
		if !slices.Equal(x.hints, was) {
			t.Errorf("%d: Split shares memory with what it was given", i)
		}
	}
}
