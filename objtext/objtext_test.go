package objtext_test

import (
	"slices"
	"strings"
	"testing"

	"replevin/api"
	"replevin/object"
	"replevin/objtext"
	"replevin/token"
)

func made(states, kinds, init int, rows ...api.Row) api.Object {
	return api.Object{States: states, Kinds: kinds, Init: init, Rows: rows}
}

func row(state, kind, next, result int) api.Row {
	return api.Row{State: state, Kind: kind, Next: next, Result: result}
}

func TestNumbers(t *testing.T) {
	lo, hi := []int{0, -5, 3}, []int{9, 5, 3, 99}
	for _, x := range []struct {
		s    string
		n    []int
		at   int
		e    api.Errno
		ends int // how many bounds there are of lo
	}{
		{" w 1 -5 3", []int{1, -5, 3}, 77, api.OK, 3}, {"w", nil, 77, api.OK, 0}, {"", nil, 77, api.ErrShort, 3}, {"", nil, 77, api.ErrShort, 0},
		{" v 1 2 3", nil, 1, api.ErrWord, 3}, {"v x", nil, 0, api.ErrWord, 3}, {"w", nil, 1, api.ErrShort, 3}, {"w 1 2  ", nil, 5, api.ErrShort, 3},
		{"w x 2 3", nil, 2, api.ErrForm, 3}, {"w 1 6 3", nil, 4, api.ErrNum, 3}, {"w 1 2 3 4", nil, 8, api.ErrRest, 3}, {"w 1 2 3 4 5", nil, 8, api.ErrRest, 3},
		{"w 1 2", []int{1, 2}, 77, api.OK, 2}, {"w 1 2 3", nil, 6, api.ErrRest, 2}, {"w 10 x", nil, 2, api.ErrNum, 3}, {"w w", nil, 2, api.ErrForm, 1}, {"w 0", nil, 2, api.ErrRest, 0},
	} {
		var line []token.Token
		if lines := token.Lines(x.s); len(lines) > 0 {
			line = lines[0]
		}
		n, at, e := objtext.Numbers(line, "w", lo[:x.ends], hi, 77)
		if !slices.Equal(n, x.n) || at != x.at || e != x.e {
			t.Errorf("%q: %v, %d, %d", x.s, n, at, e)
		}
		if m, _, e2 := objtext.Numbers(line, "w", lo, hi[:x.ends], 77); !slices.Equal(m, n) || e2 != e {
			t.Errorf("%q, as many as both have: %v, %d", x.s, m, e2)
		}
	}
}

const two = "object 2 2 1 2\nrow 0 0 1 0\nrow 1 1 0 1000000\n"

func TestParse(t *testing.T) {
	for _, x := range []struct {
		s    string
		want api.Object
	}{
		{"object 1 1 0 1\nrow 0 0 0 7", made(1, 1, 0, row(0, 0, 0, 7))}, {"object 32 64 31 0", made(32, 64, 31)},
		{two, made(2, 2, 1, row(0, 0, 1, 0), row(1, 1, 0, 1000000))},
		{"\nc x\n  object\t2 2 1\r 2\n\n row 0 0 1 0\nc y\nrow 1 1 0 1000000\n\n \n", made(2, 2, 1, row(0, 0, 1, 0), row(1, 1, 0, 1000000))},
	} {
		if o, at, e := objtext.Parse(x.s); !object.Same(o, x.want) || at != len(x.s) || e != api.OK {
			t.Errorf("%q: %v, %d, %d", x.s, o, at, e)
		}
	}
}

// faults are texts with their faults; those of Parse alone have ErrRest of a line.
var faults = []struct {
	s  string
	at int
	e  api.Errno
}{
	{"", 0, api.ErrShort}, {" \nc object 1 1 0 0\n", 19, api.ErrShort}, {"\n Object 1 1 0 0", 2, api.ErrWord}, {"row 0 0 0 0", 0, api.ErrWord},
	{"object", 6, api.ErrShort}, {"object 1 1 0 \n 0", 12, api.ErrShort}, {"object 1 1 0 0 0", 15, api.ErrRest}, {"object x", 7, api.ErrForm},
	{"object 1000001 1 0 0", 7, api.ErrNum}, {"object 1 1 0 1000001", 13, api.ErrNum}, {"object -1 1 0 0", 7, api.ErrNum}, {"object 1 1 0 -1", 13, api.ErrNum},
	{" object 0 1 0 0", 1, api.ErrArg}, {"object 33 1 0 0", 0, api.ErrArg}, {"object 1000000 1 0 0", 0, api.ErrArg}, {"object 1 65 0 0", 0, api.ErrArg}, {"object 1 1 1 0", 0, api.ErrArg},
	{"object 1 1 0 1", 14, api.ErrShort}, {"object 1 1 0 1\n\n", 16, api.ErrShort}, {"object 0 1 0 1", 14, api.ErrShort}, {"object 0 1 0 1\nrow 0 0 0 0", 0, api.ErrArg},
	{"object 1 1 0 1\nraw 0 0 0 0", 15, api.ErrWord}, {"x\nobject 1 1 0 0", 0, api.ErrWord}, {"object 1 1 0 1\nx\nrow 0 0 0 7", 15, api.ErrWord}, {"object 1 1 0 1\n row 0 0 0", 25, api.ErrShort}, {"object 1 1 0 1\nrow 0 0 0 1000001", 25, api.ErrNum}, {"object 1 1 0 1\nrow 0 0 0 0 0", 27, api.ErrRest},
	{"object 2 2 0 2\nrow 0 0 2 0\nrow 9", 32, api.ErrShort}, {"object 2 2 0 2\nrow 0 0 2 0\n row 9 0 0 0", 15, api.ErrState}, {"object 2 2 0 2\nrow 0 0 1 0\n row 1 2 0 0", 28, api.ErrKind},
	{"object 2 2 0 2\nrow 0 1 1 0\n\n row 0 1 0 0", 29, api.ErrOrder}, {"object 2 2 0 2\nrow 0 1 1 0\nrow 0 0 0 0\n", 27, api.ErrOrder},
	{"object 1 1 0 999999\nrow 0 0 0 0", 31, api.ErrShort},
}

func TestFaults(t *testing.T) {
	for _, x := range faults {
		if o, at, e := objtext.Parse(x.s); at != x.at || e != x.e || !object.Same(o, api.Object{}) {
			t.Errorf("%q: %v, %d, %d", x.s, o, at, e)
		}
		end := 1000
		o, rest, at, e := objtext.Take(token.Lines(x.s), end)
		if x.e == api.ErrShort && x.at == len(x.s) && at == end {
			at = x.at
		}
		if at != x.at || e != x.e || len(rest) > 0 || !object.Same(o, api.Object{}) {
			t.Errorf("Take of %q: %v, %d, %d", x.s, o, at, e)
		}
	}
	for _, behind := range []string{"row 1 2 3 4", "x", "x\nx x"} {
		if _, at, e := objtext.Parse(two + "\n" + behind); at != len(two)+1 || e != api.ErrRest {
			t.Error(behind, at, e)
		}
	}
	long := two + strings.Repeat(" ", api.MaxText-len(two))
	if _, at, e := objtext.Parse(long); at != len(long) || e != api.OK {
		t.Error(at, e)
	}
	if _, at, e := objtext.Parse(long + " "); at != 0 || e != api.ErrBig {
		t.Error(at, e)
	}
}

func TestTake(t *testing.T) {
	lines := token.Lines("\n" + two + "\nrow 1\n\nx")
	o, rest, at, e := objtext.Take(lines, 99)
	if !object.Same(o, made(2, 2, 1, row(0, 0, 1, 0), row(1, 1, 0, 1000000))) || at != 99 || e != api.OK || token.Join(rest) != "\nrow 1\n\nx\n" {
		t.Error(o, rest, at, e)
	}
	_, rest, _, e = objtext.Take(token.Lines(two), 99)
	if len(rest) > 0 || e != api.OK {
		t.Error(rest, e)
	}
	if _, rest, at, e := objtext.Take(nil, 99); at != 99 || e != api.ErrShort || len(rest) > 0 {
		t.Error(at, e)
	}
}

func TestPrint(t *testing.T) {
	for _, x := range []struct {
		o    api.Object
		want string
		e    api.Errno
	}{
		{made(2, 2, 1, row(0, 0, 1, 0), row(1, 1, 0, 1000000)), two, api.OK}, {made(1, 1, 0), "object 1 1 0 0\n", api.OK}, {api.Object{}, "", api.ErrArg},
		{made(1, 1, 0, row(1, 0, 0, 0)), "", api.ErrState}, {made(1, 1, 0, row(0, 1, 0, 0)), "", api.ErrKind}, {made(1, 1, 0, row(0, 0, 0, -1)), "", api.ErrNum}, {made(1, 1, 0, row(0, 0, 0, 0), row(0, 0, 0, 0)), "", api.ErrOrder},
	} {
		s, e := objtext.Print(x.o)
		if s != x.want || e != x.e {
			t.Errorf("%v: %q, %d", x.o, s, e)
		}
		if back, at, e := objtext.Parse(s); x.e == api.OK && (!object.Same(back, x.o) || at != len(s) || e != api.OK) {
			t.Errorf("%v came back as %v, %d", x.o, back, e)
		}
	}
}

// TestPlaces: a fault's place is where a token begins, or ends, or the text's end.
func TestPlaces(t *testing.T) {
	for at := range two {
		for _, b := range []string{" ", "0", "9", "-", "x", "\n", ""} {
			s := two[:at] + b + two[at+1:]
			o, where, e := objtext.Parse(s)
			if e == api.OK {
				if _, e := object.Check(o); e != api.OK {
					t.Fatalf("%q: %v, which may not be", s, o)
				}
				continue
			}
			edge := where == len(s)
			for _, line := range token.Lines(s) {
				for _, x := range line {
					edge = edge || where == x.At || where == x.At+len(x.Text)
				}
			}
			if !edge {
				t.Fatalf("%q: %d", s, where)
			}
		}
	}
}
