package script_test

import (
	"math"
	"slices"
	"strconv"
	"strings"
	"testing"

	"replevin/api"
	"replevin/histtext"
	"replevin/script"
)

// flag: kind 0 sets it, kind 1 tells it.
const flag = "object 2 2 0 4\nrow 0 0 1 0\nrow 0 1 0 0\nrow 1 0 1 0\nrow 1 1 1 1\n"

// one has one state, and a move of kind 0 with result 7; its kind 1 never moves.
const one = "object 1 2 0 1\nrow 0 0 0 7\n"

// run runs lines behind an object's text, and tells the texts, parted by semicolons.
func run(t *testing.T, object, lines string) string {
	t.Helper()
	out, e := script.Run(object + strings.ReplaceAll(lines, " / ", "\n"))
	if e != api.OK {
		t.Fatal(lines, e)
	}
	return strings.Join(out, "; ")
}

func TestExamples(t *testing.T) {
	for i, x := range []struct{ object, lines, want string }{
		{flag, "lin / ops", "yes; 0"},
		{flag, "call 1 0 / call 2 1 / ret 2 1 / lin", "ok; ok; ok; yes"},
		{flag, "call 2 1 / ret 2 1 / lin / check", "ok; ok; no; notlinearizable"},
		{flag, "call 1 0 / ret 1 0 / call 2 1 / ret 2 0 / lin / shrink", "ok; ok; ok; ok; no; 4"},
		{flag, "call 1 0 / call 1 0", "ok; error 33"},
		{flag, "call 1 2", "error 7"},
		{flag, "call 1 0 / call 2 1 / size", "ok; ok; 12 29"},
		{flag, "call 1 0 / ret 1 0 / count 1 / count 2", "ok; ok; yes; no"},
		{flag, "kinds / open / fly", "0; 0; error 60"},
		{"object 1 1 0 0\n", "call 1 0 / lin / ret 1 0 / lin", "ok; yes; ok; no"},
		{"object 1 1 0 1\nrow 0 0 0 7\n", "lin / call 1 0 / ret 1 6 / lin", "yes; ok; ok; no"},
	} {
		if got := run(t, x.object, x.lines); got != x.want {
			t.Errorf("%d: %s", i+1, got)
		}
	}
}

func TestLines(t *testing.T) {
	for i, x := range []struct{ object, lines, want string }{
		{one, "", ""}, {one, "c x /  / \t / c / ops", "0"}, {one, "kinds / call 1 1 / kinds / open / ops / ret 1 7 / open / ops", "1; ok; 1; 1; 1; ok; 0; 1"},
		{one, "call / call 1 / call 0 0 / call 1001 0 / call x 0 / call 1 2 / call 1 0 0 / call 1 -1 / ret 1 1000001 / ret 1 0 / ret / ret 1 x", "error 4; error 4; error 7; error 7; error 5; error 7; error 6; error 7; error 7; error 33; error 4; error 5"},
		{one, "call 1 0 / call 1 0 / open / ret 2 0 / open / ret 1 7 / ret 1 7 / open / ops", "ok; error 33; 1; error 33; 1; ok; error 33; 0; 1"},
		{one, "row 0 0 0 7 / object 1 1 0 0 / Lin / 1 / check check / lin lin", "error 60; error 60; error 60; error 60; error 60; error 60"},
		{one, "lin 1 / open 0 / ops 1000 / kinds 0 / size 1 / lin x", "error 60; error 60; error 60; error 60; error 60; error 60"},
		{one, "check 1000001 / check -1 / check 01 / check x / check 5 5 / check 1000000000000000000000000 / check 18446744073709551621 / check 5x / check 5/ / check 5: / check 00 / count 1000001 / shrink -1 / shrink 1 1 / count 1 x", strings.Repeat("error 60; ", 14) + "error 60"},
		{one, "check / check 1000000 / check 0 / count / count 0 / count 1 / count 2 / shrink / shrink 0", "linearizable; linearizable; linearizable; no; yes; yes; no; none; none"},
		{one, "call 1 0 / ret 1 6 / check 1000 / shrink 2 / shrink 1 / shrink 0 / shrink 1000000 / count 0 / count 1 / lin", "ok; ok; notlinearizable; 2; more; more; 2; yes; no; no"},
		{one, "size / call 1 0 / size / ret 1 7 / size", "1 2; ok; 4 6; ok; 4 6"}, {"object 1 1 0 0\n", "kinds", "1"}, {"c x\n\n" + one, "ops", "0"},
	} {
		if got := run(t, x.object, x.lines); got != x.want {
			t.Errorf("%d: %s", i, got)
		}
	}
}

// calls tells the lines of so many calls of kind 0.
func calls(from, to int) string {
	var l []string
	for i := from; i <= to; i++ {
		l = append(l, "call "+strconv.Itoa(i)+" 0")
	}
	return strings.Join(l, " / ")
}

func TestLarge(t *testing.T) {
	last := func(lines string, n int) string {
		all := strings.Split(run(t, one, lines), "; ")
		return strings.Join(all[len(all)-n:], "; ")
	}
	for i, x := range []struct{ lines, want string }{
		{calls(1, 6) + " / count 1957 / count 1958 / size", "yes; no; 49 266"}, {calls(1, 7) + " / count 1 / count 0 / count", "large; large; large"}, {calls(1, 20) + " / count / lin / shrink", "large; yes; none"}, {calls(1, 21) + " / lin / shrink / shrink 0", "large; large; large"},
		{calls(1, 29) + " / size / check 0 / check / ops", "900 25290; linearizable; linearizable; 29"}, {calls(1, 30) + " / size / check 0 / check / ops / open", "large; toolarge; toolarge; 30; 30"},
		{calls(1, 29) + " / call 30 1 / lin / count / size", "large; large; large"},
	} {
		got := last(x.lines, strings.Count(x.want, ";")+1)
		if i == 4 { // with a budget of 0 it may be spent
			got = strings.Replace(got, "budgetout", "linearizable", 1)
		}
		if got != x.want {
			t.Errorf("%d: %s", i, got)
		}
	}
}

func TestErrors(t *testing.T) {
	for i, x := range []struct {
		s string
		e api.Errno
	}{
		{"", api.ErrShort}, {"lin", api.ErrWord}, {"object 1 1 0 1", api.ErrShort}, {"object 0 1 0 0", api.ErrArg}, {"object 1 1 0 1\nrow 1 0 0 0", api.ErrState}, {"object 1 1 0 1\nrow 0 1 0 0", api.ErrKind}, {"object 2 2 0 2\nrow 0 1 0 0\nrow 0 0 0 0\nlin", api.ErrOrder}, {"object 1 1 0 x", api.ErrForm},
		{one + strings.Repeat("\n", 20000-len(one)), api.OK}, {one + strings.Repeat("\n", 20001-len(one)), api.ErrBig}, {strings.Repeat("x", 20001), api.ErrBig}, {one + strings.Repeat("ops\n\n", 198), api.OK}, {one + strings.Repeat("ops\n", 199), api.ErrBig}, {strings.Repeat("x\n", 201), api.ErrBig}, {strings.Repeat("x\n", 200), api.ErrWord},
	} {
		out, e := script.Run(x.s)
		if e != x.e || e != api.OK && len(out) > 0 {
			t.Errorf("%d: %d, %v", i, e, out)
		}
	}
	if out, _ := script.Run(one + strings.Repeat("ops\n", 198)); len(out) != 198 || out[197] != "0" {
		t.Error(len(out))
	}
}

func TestAsk(t *testing.T) {
	c, _, e := histtext.Parse(flag + "call 1 0\nret 1 0\ncall 2 1\nret 2 0\ncall 3 1\n")
	if e != api.OK {
		t.Fatal(e)
	}
	bad := c
	bad.Events = c.Events[1:]
	for i, x := range []struct {
		word string
		n    int
		want string
	}{
		{"check", 1000, "notlinearizable"}, {"check", math.MaxInt, "notlinearizable"}, {"open", 0, "1"}, {"ops", -5, "3"}, {"kinds", 7, "0"}, {"size", 0, "20 65"}, {"lin", 0, "no"}, {"count", 0, "yes"}, {"count", math.MinInt, "yes"}, {"count", 1, "no"},
		{"shrink", 4, "4"}, {"shrink", 3, "more"}, {"shrink", math.MinInt, "more"}, {"shrink", math.MaxInt, "4"},
	} {
		if got, ok := script.Ask(c, x.word, x.n); got != x.want || !ok {
			t.Errorf("%d: %q, %t", i, got, ok)
		}
		for _, b := range []histtext.Case{bad, {}} {
			if got, ok := script.Ask(b, x.word, x.n); got != "" || ok {
				t.Errorf("%d: of a case that may not be: %q", i, got)
			}
		}
	}
	if got, ok := script.Ask(c, "check", math.MinInt); !ok || got != "notlinearizable" && got != "budgetout" {
		t.Error(got, ok)
	}
	for _, word := range []string{"", "call", "ret", "Lin", "lin ", "object", "error"} {
		if got, ok := script.Ask(c, word, 0); got != "" || ok {
			t.Errorf("%q: %q", word, got)
		}
	}
}

// TestSteps: what is told of a line hangs on no line behind it, and asking changes nothing.
func TestSteps(t *testing.T) {
	lines := []string{"lin", "call 1 0", "check", "call 2 1", "count 2", "call 1 1", "ret 2 1", "shrink", "ret 3 0", "size", "ret 1 0", "fly", "call 2 1", "ret 2 0", "lin", "shrink 3", "open"}
	whole, e := script.Run(flag + strings.Join(lines, "\n"))
	if e != api.OK || len(whole) != len(lines) {
		t.Fatal(whole, e)
	}
	for n := range lines {
		head, e := script.Run(flag + strings.Join(lines[:n], "\n"))
		if e != api.OK || !slices.Equal(head, whole[:n]) {
			t.Fatal(n, head)
		}
	}
	var events []string
	for _, x := range lines {
		if strings.HasPrefix(x, "call") || strings.HasPrefix(x, "ret") {
			events = append(events, x)
		}
	}
	alone, _ := script.Run(flag + strings.Join(append(events, lines[14:]...), "\n"))
	if !slices.Equal(alone[len(alone)-3:], whole[14:]) {
		t.Error(alone, whole)
	}
}
