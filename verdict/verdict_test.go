package verdict_test

import (
	"math"
	"strings"
	"testing"

	"replevin/api"
	"replevin/verdict"
)

func pick(x ...int) []api.Pick {
	var out []api.Pick
	for i := 0; i < len(x); i += 2 {
		out = append(out, api.Pick{Oper: x[i], Result: x[i+1]})
	}
	return out
}

func add(id int, lits, hints []int) api.Step {
	return api.Step{Kind: api.StepAdd, Id: id, Lits: lits, Hints: hints}
}

// rows tells picks of the first n operations.
func rows(n int) []api.Pick {
	var out []api.Pick
	for i := range n {
		out = append(out, api.Pick{Oper: i, Result: i})
	}
	return out
}

var steps = []api.Step{add(5, []int{1, -2}, []int{3, -4}), {Kind: api.StepDelete, Id: 6, Hints: []int{1}}, add(7, nil, nil)}

// some are verdicts, with the errors of Check, and their texts.
var some = []struct {
	v api.Verdict
	e api.Errno
	s string
}{
	{api.Verdict{Kind: 1, At: 7, Err: 5}, api.OK, "malformed 7 5\n"}, {api.Verdict{Kind: 1, At: 1000000, Err: 99}, api.OK, "malformed 1000000 99\n"}, {api.Verdict{Kind: 1, Err: 1}, api.OK, "malformed 0 1\n"},
	{api.Verdict{Kind: 2}, api.OK, "toolarge\n"}, {api.Verdict{Kind: 3}, api.OK, "budgetout\n"}, {api.Verdict{Kind: 4}, api.OK, "linearizable 0\n"}, {api.Verdict{Kind: 4, Picks: pick(0, 7)}, api.OK, "linearizable 1\npick 0 7\n"}, {api.Verdict{Kind: 4, Picks: pick(63, 1000000, 0, 0)}, api.OK, "linearizable 2\npick 63 1000000\npick 0 0\n"},
	{api.Verdict{Kind: 5}, api.OK, "notlinearizable\n"}, {api.Verdict{Kind: 5, Proof: steps}, api.OK, "notlinearizable\n5 1 -2 0 3 -4 0\n6 d 1 0\n7 0 0\n"},
	{api.Verdict{}, api.ErrKind, ""}, {api.Verdict{Kind: 6}, api.ErrKind, ""}, {api.Verdict{Kind: -1, Err: 3}, api.ErrKind, ""}, {api.Verdict{Kind: math.MaxInt}, api.ErrKind, ""}, {api.Verdict{Kind: math.MinInt}, api.ErrKind, ""},
	{api.Verdict{Kind: 1}, api.ErrArg, ""}, {api.Verdict{Kind: 1, At: -1, Err: 5}, api.ErrArg, ""}, {api.Verdict{Kind: 1, At: 1000001, Err: 5}, api.ErrArg, ""}, {api.Verdict{Kind: 1, Err: 100}, api.ErrArg, ""}, {api.Verdict{Kind: 1, Err: -5}, api.ErrArg, ""}, {api.Verdict{Kind: 1, Err: 5, Picks: pick(0, 0)}, api.ErrArg, ""}, {api.Verdict{Kind: 1, Err: 5, Proof: steps}, api.ErrArg, ""},
	{api.Verdict{Kind: 2, At: 1}, api.ErrArg, ""}, {api.Verdict{Kind: 2, Err: 1}, api.ErrArg, ""}, {api.Verdict{Kind: 2, Picks: pick(0, 0)}, api.ErrArg, ""}, {api.Verdict{Kind: 2, Proof: steps}, api.ErrArg, ""},
	{api.Verdict{Kind: 3, At: 1}, api.ErrArg, ""}, {api.Verdict{Kind: 3, Err: 1}, api.ErrArg, ""}, {api.Verdict{Kind: 3, Picks: pick(0, 0)}, api.ErrArg, ""}, {api.Verdict{Kind: 3, Proof: steps}, api.ErrArg, ""},
	{api.Verdict{Kind: 4, At: 1}, api.ErrArg, ""}, {api.Verdict{Kind: 4, Err: 1}, api.ErrArg, ""}, {api.Verdict{Kind: 4, Proof: steps}, api.ErrArg, ""}, {api.Verdict{Kind: 4, Picks: pick(64, 0)}, api.ErrArg, ""}, {api.Verdict{Kind: 4, Picks: pick(-1, 0)}, api.ErrArg, ""}, {api.Verdict{Kind: 4, Picks: pick(0, -1)}, api.ErrArg, ""}, {api.Verdict{Kind: 4, Picks: pick(0, 1000001)}, api.ErrArg, ""}, {api.Verdict{Kind: 4, Picks: pick(3, 1, 3, 2)}, api.ErrArg, ""},
	{api.Verdict{Kind: 5, At: 1}, api.ErrArg, ""}, {api.Verdict{Kind: 5, Err: 1}, api.ErrArg, ""}, {api.Verdict{Kind: 5, Picks: pick(0, 0)}, api.ErrArg, ""}, {api.Verdict{Kind: 5, Proof: []api.Step{{}}}, api.ErrArg, ""},
}

func TestVerdicts(t *testing.T) {
	for i, x := range some {
		if e := verdict.Check(x.v); e != x.e {
			t.Errorf("%d: Check %d", i, e)
		}
		s, e := verdict.Print(x.v)
		if s != x.s || e != x.e {
			t.Errorf("%d: Print %q, %d", i, s, e)
		}
		back, at, e := verdict.Parse(x.s)
		if x.e == api.OK && (!verdict.Same(back, x.v) || at != len(s) || e != api.OK) {
			t.Errorf("%d: %v came back as %v, %d, %d", i, x.v, back, at, e)
		}
		for k, y := range some {
			if verdict.Same(x.v, y.v) != (i == k) {
				t.Errorf("%d and %d", i, k)
			}
		}
	}
	full := api.Verdict{Kind: 4, Picks: rows(64)}
	s, e := verdict.Print(full)
	if back, _, e2 := verdict.Parse(s); e != api.OK || e2 != api.OK || !verdict.Same(back, full) {
		t.Error(e, e2)
	}
	if !verdict.Same(api.Verdict{}, api.Verdict{Picks: []api.Pick{}, Proof: []api.Step{}}) || verdict.Same(api.Verdict{Kind: 5, Proof: steps}, api.Verdict{Kind: 5, Proof: steps[:2]}) || verdict.Same(api.Verdict{Kind: 4, Picks: pick(0, 1)}, api.Verdict{Kind: 4, Picks: pick(0, 2)}) {
		t.Error("Same")
	}
}

func TestWord(t *testing.T) {
	for kind, want := range map[int]string{1: "malformed", 2: "toolarge", 3: "budgetout", 4: "linearizable", 5: "notlinearizable", 0: "", 6: "", -1: "", math.MaxInt: "", math.MinInt: ""} {
		if got := verdict.Word(kind); got != want {
			t.Errorf("%d: %q", kind, got)
		}
	}
}

// long tells a verdict with a proof whose text has so many bytes.
func long(n int) api.Verdict {
	v := api.Verdict{Kind: api.NotLinearizable}
	for ; n >= 12; n -= 6 {
		v.Proof = append(v.Proof, api.Step{Kind: api.StepDelete, Id: 1})
	}
	id := 1
	for ; n > 6; n-- {
		id *= 10
	}
	v.Proof = append(v.Proof, api.Step{Kind: api.StepDelete, Id: id})
	return v
}

func TestLong(t *testing.T) {
	head := len("notlinearizable\n")
	s, e := verdict.Print(long(api.MaxText - head))
	if len(s) != api.MaxText || e != api.OK {
		t.Error(len(s), e)
	}
	if v, at, e := verdict.Parse(s); at != len(s) || e != api.OK || len(v.Proof) == 0 {
		t.Error(at, e)
	}
	if v, at, e := verdict.Parse(s + "\n"); at != 0 || e != api.ErrBig || v.Kind != 0 {
		t.Error(at, e)
	}
	for _, n := range []int{api.MaxText - head + 1, api.MaxText + 7} {
		if s, e := verdict.Print(long(n)); s != "" || e != api.ErrBig {
			t.Error(n, len(s), e)
		}
	}
}

func TestParse(t *testing.T) {
	for _, x := range []struct {
		s    string
		want api.Verdict
	}{
		{"\nc x\n toolarge \r\n\n \nc", api.Verdict{Kind: 2}}, {"budgetout", api.Verdict{Kind: 3}}, {"malformed\t3 4", api.Verdict{Kind: 1, At: 3, Err: 4}}, {"linearizable 2\n\npick 4 0\nc pick 4 1\n pick 3 9\n\n", api.Verdict{Kind: 4, Picks: pick(4, 0, 3, 9)}},
		{"c\n notlinearizable \n\n5 1 -2 0 3 -4 0\nc x\n6 d 1 0\n\n7 0 0", api.Verdict{Kind: 5, Proof: steps}}, {"notlinearizable", api.Verdict{Kind: 5}}, {"notlinearizable\n\n\n", api.Verdict{Kind: 5}},
	} {
		if v, at, e := verdict.Parse(x.s); !verdict.Same(v, x.want) || at != len(x.s) || e != api.OK {
			t.Errorf("%q: %v, %d, %d", x.s, v, at, e)
		}
	}
}

func TestFaults(t *testing.T) {
	for _, x := range []struct {
		s  string
		at int
		e  api.Errno
	}{
		{"", 0, api.ErrShort}, {"\n c\nc x", 2, api.ErrWord}, {"\nc x\n", 5, api.ErrShort}, {"Toolarge", 0, api.ErrWord}, {" pick 0 0", 1, api.ErrWord}, {"1", 0, api.ErrWord},
		{"toolarge 1", 9, api.ErrRest}, {"budgetout\nx", 10, api.ErrRest}, {"budgetout x", 10, api.ErrRest}, {"toolarge\n\n toolarge", 11, api.ErrRest}, {"malformed 1 1\n x", 15, api.ErrRest},
		{"malformed", 9, api.ErrShort}, {"malformed 1  \n1", 11, api.ErrShort}, {"malformed 1000001 1", 10, api.ErrNum}, {"malformed -1 1", 10, api.ErrNum}, {"malformed 0 0", 12, api.ErrNum}, {"malformed 0 100", 12, api.ErrNum}, {"malformed x 1", 10, api.ErrForm}, {"malformed 1 1 1", 14, api.ErrRest},
		{"linearizable", 12, api.ErrShort}, {"linearizable 65", 13, api.ErrNum}, {"linearizable -1", 13, api.ErrNum}, {"linearizable 1 1", 15, api.ErrRest}, {"linearizable 1", 14, api.ErrShort}, {"linearizable 1\n\n", 16, api.ErrShort}, {"linearizable 0\npick 0 0", 15, api.ErrRest},
		{"linearizable 1\npack 0 0", 15, api.ErrWord}, {"linearizable 1\n pick 64 0", 21, api.ErrNum}, {"linearizable 1\npick 0 1000001", 22, api.ErrNum}, {"linearizable 1\npick 0", 21, api.ErrShort}, {"linearizable 1\npick 0 0 0", 24, api.ErrRest}, {"linearizable 1\npick 00 0", 20, api.ErrForm},
		{"linearizable 2\npick 3 0\n pick 3 1", 25, api.ErrDup}, {"linearizable 2\npick 3 0\npick 3 1000001", 31, api.ErrNum}, {"linearizable 3\npick 3 0\npick 4 1", 32, api.ErrShort}, {"linearizable 1\npick 0 0\npick 1 0", 24, api.ErrRest}, {"notlinearizable 1", 16, api.ErrRest}, {"notlinearizable x\ny", 16, api.ErrRest},
	} {
		if v, at, e := verdict.Parse(x.s); at != x.at || e != x.e || !verdict.Same(v, api.Verdict{}) {
			t.Errorf("%q: %v, %d, %d", x.s, v, at, e)
		}
	}
}

// TestProofFaults: what stands behind the first line is a proof's text, with its faults.
func TestProofFaults(t *testing.T) {
	for behind, want := range map[string]api.Errno{"x": api.ErrForm, "\n5": api.ErrShort, "5 1 1 0 0": api.ErrDup, "0 0 0": api.ErrNum, "5 0 0 0": api.ErrRest, "5 0 0\n budgetout": api.ErrForm, "5 100001 0 0": api.ErrNum} {
		s := "c\nnotlinearizable\n" + behind
		v, at, e := verdict.Parse(s)
		if e != want || at < 0 || at > len(s) || !verdict.Same(v, api.Verdict{}) {
			t.Errorf("%q: %v, %d, %d", behind, v, at, e)
		}
	}
}

// TestPlaces: a fault's place is in the text, or its end; what is read may be.
func TestPlaces(t *testing.T) {
	for _, x := range some {
		for at := range x.s {
			for _, b := range []string{" ", "0", "9", "-", "x", "\n", ""} {
				s := x.s[:at] + b + x.s[at+1:]
				v, where, e := verdict.Parse(s)
				if where < 0 || where > len(s) || e == api.OK && verdict.Check(v) != api.OK {
					t.Fatalf("%q: %v, %d, %d", s, v, where, e)
				}
			}
		}
	}
	if _, at, e := verdict.Parse(strings.Repeat(" ", api.MaxText) + "toolarge"); at != 0 || e != api.ErrBig {
		t.Error(at, e)
	}
}
