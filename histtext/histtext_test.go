package histtext_test

import (
	"strings"
	"testing"

	"replevin/api"
	"replevin/event"
	"replevin/histtext"
	"replevin/object"
	"replevin/token"
)

func call(p, kind int) api.Event { return api.Event{What: api.Invoke, Process: p, N: kind} }

func ret(p, result int) api.Event { return api.Event{What: api.Return, Process: p, N: result} }

func row(state, kind, next, result int) api.Row {
	return api.Row{State: state, Kind: kind, Next: next, Result: result}
}

func made(kinds int, events ...api.Event) histtext.Case {
	return histtext.Case{Object: api.Object{States: 1, Kinds: kinds, Rows: []api.Row{row(0, 0, 0, 7)}}, Events: events}
}

func same(a, b histtext.Case) bool {
	return object.Same(a.Object, b.Object) && event.Same(a.Events, b.Events)
}

const head = "object 1 2 0 1\nrow 0 0 0 7\n"

func TestCheck(t *testing.T) {
	bad := made(0, api.Event{})
	unordered := made(2, call(1, 3))
	unordered.Object.Rows = append(unordered.Object.Rows, unordered.Object.Rows[0])
	for i, x := range []struct {
		c histtext.Case
		e api.Errno
	}{
		{made(2, call(1, 1), ret(1, 9)), api.OK}, {made(1), api.OK}, {bad, api.ErrArg}, {unordered, api.ErrOrder}, {histtext.Case{}, api.ErrArg},
		{made(2, api.Event{}), api.ErrWord}, {made(2, call(0, 0)), api.ErrArg}, {made(2, call(1, 64)), api.ErrKind}, {made(2, call(1, 0), ret(1, -1)), api.ErrNum}, {made(2, ret(1, 0)), api.ErrOpen}, {made(2, call(1, 9), call(1, 0)), api.ErrOpen},
		{made(2, call(1, 2)), api.ErrKind}, {made(2, call(1, 0), ret(1, 50)), api.OK}, {made(64, call(1, 63)), api.OK},
	} {
		if e := histtext.Check(x.c); e != x.e {
			t.Errorf("%d: %d", i, e)
		}
		s, e := histtext.Print(x.c)
		if e != x.e || (s == "") != (e != api.OK) {
			t.Errorf("%d: printed: %q, %d", i, s, e)
		}
		if back, at, e := histtext.Parse(s); x.e == api.OK && (!same(back, x.c) || at != len(s) || e != api.OK) {
			t.Errorf("%d: it came back as %v, %d", i, back, e)
		}
	}
}

func TestParse(t *testing.T) {
	want := made(2, call(1, 0), call(1000, 1), ret(1, 1000000), ret(1000, 0), call(1, 1))
	for _, s := range []string{
		head + "call 1 0\ncall 1000 1\nret 1 1000000\nret 1000 0\ncall 1 1\n",
		"c x\n\n" + head + "\n \n call\t1 0\r\nc call 1 0\ncall 1000 1\nret 1 1000000\n\nret 1000 0\ncall 1 1",
	} {
		if c, at, e := histtext.Parse(s); !same(c, want) || at != len(s) || e != api.OK {
			t.Errorf("%q: %v, %d, %d", s, c, at, e)
		}
	}
	if c, at, e := histtext.Parse(head); !same(c, made(2)) || at != len(head) || e != api.OK {
		t.Error(c, at, e)
	}
	if s, e := histtext.Print(want); s != head+"call 1 0\ncall 1000 1\nret 1 1000000\nret 1000 0\ncall 1 1\n" || e != api.OK {
		t.Errorf("%q, %d", s, e)
	}
}

func TestFaults(t *testing.T) {
	n := len(head)
	for _, x := range []struct {
		s  string
		at int // of what stands behind head
		e  api.Errno
	}{
		{" Call 1 0", 1, api.ErrWord}, {"row 0 0 0 7", 0, api.ErrWord}, {"x 0 x", 0, api.ErrWord}, {"object 1 1 0 0", 0, api.ErrWord},
		{"call", 4, api.ErrShort}, {"call 1  \nret", 6, api.ErrShort}, {"call 0 9", 5, api.ErrNum}, {"call 1001 0", 5, api.ErrNum}, {"call x", 5, api.ErrForm}, {"call 01 0", 5, api.ErrForm},
		{"call 1 2", 7, api.ErrNum}, {"call 1 -1", 7, api.ErrNum}, {"call 1 -0", 7, api.ErrForm}, {"call 1 1 1", 9, api.ErrRest}, {"ret 1 1000001", 6, api.ErrNum}, {"ret 1", 5, api.ErrShort}, {"ret 1 -1", 6, api.ErrNum}, {"ret 0 0", 4, api.ErrNum},
		{"ret 1 0", 0, api.ErrOpen}, {"call 1 0\n  call 1 1", 11, api.ErrOpen}, {"call 1 0\nret 1 0\nret 1 0", 17, api.ErrOpen}, {"call 1 0\nret 2 0", 9, api.ErrOpen}, {"call 1 0\ncall 1 2", 16, api.ErrNum}, {"call 1 0\ncall 1 1 1", 18, api.ErrRest},
	} {
		if c, at, e := histtext.Parse(head + x.s); at != n+x.at || e != x.e || !same(c, histtext.Case{}) {
			t.Errorf("%q: %v, %d, %d", x.s, c, at-n, e)
		}
	}
	for _, x := range []struct {
		s  string
		at int
		e  api.Errno
	}{
		{"", 0, api.ErrShort}, {"call 1 0", 0, api.ErrWord}, {"object 1 1 0 1\ncall 1 0", 15, api.ErrWord}, {"object 1 1 0 1\n", 15, api.ErrShort}, {"object 0 1 0 0\ncall x", 0, api.ErrArg}, {"object 1 1 0 1\nrow 1 0 0 0\ncall 1 0", 15, api.ErrState},
		{"object 1 1 0 0\ncall 1 1", 22, api.ErrNum},
	} {
		if c, at, e := histtext.Parse(x.s); at != x.at || e != x.e || !same(c, histtext.Case{}) {
			t.Errorf("%q: %v, %d, %d", x.s, c, at, e)
		}
	}
}

func TestLimits(t *testing.T) {
	s := head + strings.Repeat("call 1 0\nret 1 0\n", event.Most/2)
	if c, at, e := histtext.Parse(s); len(c.Events) != event.Most || at != len(s) || e != api.OK {
		t.Error(len(c.Events), at, e)
	}
	for line, want := range map[string]api.Errno{" call 1 0": api.ErrBig, " ret 1 0": api.ErrOpen, " x": api.ErrWord} {
		if _, at, e := histtext.Parse(s + line); at != len(s)+1 || e != want {
			t.Errorf("%q: %d, %d", line, at, e)
		}
	}
	if _, at, e := histtext.Parse(s + "call 1 2"); at != len(s)+7 || e != api.ErrNum {
		t.Error(at, e)
	}
	c, _, _ := histtext.Parse(s)
	c.Events = append(c.Events, call(1, 0))
	if s, e := histtext.Print(c); s != "" || e != api.ErrBig {
		t.Error(e)
	}
	long := head + strings.Repeat("\n", api.MaxText-len(head))
	if _, at, e := histtext.Parse(long); at != len(long) || e != api.OK {
		t.Error(at, e)
	}
	if _, at, e := histtext.Parse(long + "\n"); at != 0 || e != api.ErrBig {
		t.Error(at, e)
	}
}

// TestPlaces: a fault's place is where a token begins, or ends, or the text's end; the lines ahead of it are well, but for a missing row.
func TestPlaces(t *testing.T) {
	text := head + "call 1 0\ncall 2 1\nret 1 7\n"
	for at := range text {
		for _, b := range []string{" ", "0", "2", "-", "x", "\n", ""} {
			s := text[:at] + b + text[at+1:]
			c, where, e := histtext.Parse(s)
			if e == api.OK {
				if e := histtext.Check(c); e != api.OK {
					t.Fatalf("%q: %v, which may not be", s, c)
				}
				continue
			}
			edge := where == len(s)
			for _, line := range token.Lines(s) {
				for _, x := range line {
					edge = edge || where == x.At || where == x.At+len(x.Text)
				}
			}
			ahead := s[:strings.LastIndex(s[:where], "\n")+1]
			if _, _, e := histtext.Parse(ahead); !edge || e != api.OK && e != api.ErrShort {
				t.Fatalf("%q: %d, %d", s, where, e)
			}
		}
	}
}
