package dimacs_test

import (
	"math"
	"strconv"
	"strings"
	"testing"

	"replevin/api"
	"replevin/cnf"
	"replevin/dimacs"
)

func formula(vars int, clauses ...[]int) api.Formula {
	return api.Formula{Vars: vars, Clauses: clauses}
}

func TestParse(t *testing.T) {
	for _, x := range []struct {
		s    string
		want api.Formula
	}{
		{"p cnf 2 1\n1 -2 0\n", formula(2, []int{1, -2})},
		{"p cnf 0 0", formula(0)},
		{"p cnf 0 1 0", formula(0, nil)},
		{"c 9 9\nc\n p\tcnf\r\n3\n3 3 0 0\nc x\n -1\n 2 0", formula(3, []int{3}, nil, []int{-1, 2})},
		{"p cnf 100000 2 -100000 0 100000 0", formula(100000, []int{-100000}, []int{100000})},
	} {
		f, at, e := dimacs.Parse(x.s)
		if e != api.OK || at != len(x.s) || !cnf.Same(f, x.want) {
			t.Errorf("%q: %v, %d, %d", x.s, f, at, e)
		}
	}
}

func TestFaults(t *testing.T) {
	for _, x := range []struct {
		s  string
		at int
		e  api.Errno
	}{
		{"", 0, api.ErrShort}, {" \n", 2, api.ErrShort}, {"c p cnf", 7, api.ErrShort}, {"p", 1, api.ErrShort}, {"p \n", 3, api.ErrShort},
		{"q", 0, api.ErrWord}, {" cnf p", 1, api.ErrWord}, {"p cnff 1 1", 2, api.ErrWord}, {"P cnf 0 0", 0, api.ErrWord},
		{"p cnf", 5, api.ErrShort}, {"p cnf x", 6, api.ErrForm}, {"p cnf -1 0", 6, api.ErrNum}, {"p cnf 100001 0", 6, api.ErrNum},
		{"p cnf 01 0", 6, api.ErrForm}, {"p cnf 1 ", 8, api.ErrShort}, {"p cnf 1 -1", 8, api.ErrNum}, {"p cnf 1 1000001", 8, api.ErrNum},
		{"p cnf 1 1", 9, api.ErrShort}, {"p cnf 1 1 1", 11, api.ErrShort}, {"p cnf 1 1 2 0", 10, api.ErrNum}, {"p cnf 1 1 -2", 10, api.ErrNum},
		{"p cnf 2 1 1 -0", 12, api.ErrForm}, {"p cnf 2 1 1 +2 0", 12, api.ErrForm}, {"p cnf 2 1 1 2 1 0", 14, api.ErrDup}, {"p cnf 2 1 1 2 -1 0", 14, api.ErrClause},
		{"p cnf 2 1 -1 2 1 x", 15, api.ErrClause}, {"p cnf 2 1 1 -2 0 0", 17, api.ErrRest}, {"p cnf 2 0\n1", 10, api.ErrRest}, {"p cnf 2 1 0 x", 12, api.ErrRest},
		{"p cnf 1 999999999999999999999999", 8, api.ErrNum}, {"p cnf 2 2 1 0 2 2 0", 16, api.ErrDup}, {"p cnf 0 1 1 0", 10, api.ErrNum},
	} {
		f, at, e := dimacs.Parse(x.s)
		if at != x.at || e != x.e || f.Vars != 0 || len(f.Clauses) != 0 {
			t.Errorf("%q: %v, %d, %d", x.s, f, at, e)
		}
	}
}

// wide tells a clause's text of the literals 1 to n, and behind them a token.
func wide(n int, last string) string {
	s := "p cnf 2000 1"
	for i := range n {
		s += " " + strconv.Itoa(i+1)
	}
	return s + " " + last
}

func TestLimits(t *testing.T) {
	if f, _, e := dimacs.Parse(wide(1000, "0")); e != api.OK || len(f.Clauses[0]) != 1000 {
		t.Error(e)
	}
	for last, want := range map[string]api.Errno{"1001 0": api.ErrBig, "1 0": api.ErrBig, "-1 0": api.ErrBig, "2001": api.ErrNum, "x": api.ErrForm, "": api.ErrShort, "0 0": api.ErrRest} {
		s := wide(1000, last)
		at := len(s) - len(last)
		if want == api.ErrRest {
			at = len(s) - 1
		}
		if _, got, e := dimacs.Parse(s); got != at || e != want {
			t.Errorf("%q: %d, %d", last, got, e)
		}
	}
	s := "p cnf 0 0" + strings.Repeat(" ", api.MaxText-9)
	if _, at, e := dimacs.Parse(s); at != len(s) || e != api.OK {
		t.Error(at, e)
	}
	if _, at, e := dimacs.Parse(s + " "); at != 0 || e != api.ErrBig {
		t.Error(at, e)
	}
}

func TestPrint(t *testing.T) {
	for _, x := range []struct {
		f    api.Formula
		want string
		e    api.Errno
	}{
		{formula(0), "p cnf 0 0\n", api.OK}, {formula(3, []int{3, -1}, nil, []int{2}), "p cnf 3 3\n3 -1 0\n0\n2 0\n", api.OK},
		{formula(-1), "", api.ErrArg}, {formula(1, []int{2}), "", api.ErrLit}, {formula(1, []int{1, 1}), "", api.ErrDup},
		{formula(1, []int{1, -1}), "", api.ErrClause}, {formula(math.MaxInt), "", api.ErrArg},
	} {
		if s, e := dimacs.Print(x.f); s != x.want || e != x.e {
			t.Errorf("%v: %q, %d", x.f, s, e)
		}
	}
}

// TestPrintLong: ahead of 499992 empty clauses, of two bytes each, the first line has 15 bytes, and 16 of ten variables.
func TestPrintLong(t *testing.T) {
	f := formula(1, make([][]int, 499992)...)
	s, e := dimacs.Print(f)
	if e != api.OK || len(s) != api.MaxText-1 {
		t.Error(len(s), e)
	}
	f.Vars = 10
	if s, e = dimacs.Print(f); e != api.OK || len(s) != api.MaxText {
		t.Error(len(s), e)
	}
	if back, _, e := dimacs.Parse(s); e != api.OK || !cnf.Same(back, f) {
		t.Error("it does not come back", e)
	}
	f.Vars = 100
	if s, e = dimacs.Print(f); e != api.ErrBig || s != "" {
		t.Error(len(s), e)
	}
	if _, e = dimacs.Print(formula(1, make([][]int, api.MaxClauses+1)...)); e != api.ErrBig {
		t.Error(e)
	}
}

func TestHead(t *testing.T) {
	for _, f := range []api.Formula{formula(0), formula(12, []int{1}, nil)} {
		s, _ := dimacs.Print(f)
		head := dimacs.Head(f.Vars, len(f.Clauses))
		if line, _, _ := strings.Cut(s, "\n"); !strings.HasPrefix(s, head) || strings.TrimSuffix(head, "\n") != line {
			t.Errorf("%q of %q", head, s)
		}
	}
}

func TestBack(t *testing.T) {
	for _, f := range []api.Formula{formula(0), formula(0, nil, nil), formula(5), formula(5, []int{5, -4, 1}, nil, []int{-3}), formula(api.MaxVars, []int{-api.MaxVars})} {
		s, e := dimacs.Print(f)
		back, at, e2 := dimacs.Parse(s)
		if e != api.OK || e2 != api.OK || at != len(s) || !cnf.Same(back, f) {
			t.Errorf("%v came back as %v, %d, %d", f, back, e, e2)
		}
	}
}

// TestPlaces: what stands behind the token of a fault plays no part in it.
func TestPlaces(t *testing.T) {
	text := "p cnf 3 2\n1 -2 0\nc x\n3 -1 0\n"
	for at := range text {
		for _, b := range []string{" ", "0", "1", "-", "x", "3", "\n"} {
			s := text[:at] + b + text[at+1:]
			_, where, e := dimacs.Parse(s)
			if where < 0 || where > len(s) {
				t.Fatalf("%q: %d", s, where)
			}
			if e == api.OK || e == api.ErrShort {
				continue
			}
			end := where + strings.IndexAny(s[where:]+"\n", " \n")
			if _, again, e2 := dimacs.Parse(s[:end] + "\nc y\n 7 x"); again != where || e2 != e {
				t.Fatalf("%q: %d, %d; then %d, %d", s, where, e, again, e2)
			}
		}
	}
}
