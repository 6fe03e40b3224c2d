package check_test

import (
	"math"
	"slices"
	"strings"
	"testing"

	"replevin/api"
	"replevin/check"
	"replevin/cnf"
	"replevin/encode"
	"replevin/histtext"
	"replevin/lrat"
	"replevin/oper"
	"replevin/proof"
	"replevin/search"
	"replevin/verdict"
	"replevin/witness"
)

const one = "object 1 1 0 1\nrow 0 0 0 7\n"

// flag: kind 0 sets it, kind 1 tells it.
const flag = "object 2 2 0 4\nrow 0 0 1 0\nrow 0 1 0 0\nrow 1 0 1 0\nrow 1 1 1 1\n"

// calls tells the lines of so many calls that are pending.
func calls(n int) string {
	var b strings.Builder
	for i := range n {
		b.WriteString("call ")
		for _, d := range []int{1000, 100, 10, 1} {
			if i+1 >= d {
				b.WriteByte(byte('0' + (i+1)/d%10))
			}
		}
		b.WriteString(" 0\n")
	}
	return b.String()
}

func TestBudget(t *testing.T) {
	for n, want := range map[int]int{0: 0, 1: 1, -1: 0, 1000000: 1000000, 1000001: 1000000, math.MaxInt: 1000000, math.MinInt: 0} {
		if got := check.Budget(n); got != want {
			t.Errorf("%d: %d", n, got)
		}
	}
}

func TestFormula(t *testing.T) {
	s := flag + "call 1 0\ncall 2 1\nret 2 1\n"
	c, _, _ := histtext.Parse(s)
	l, _ := oper.Of(c.Events)
	want, _ := encode.Encode(c.Object, l)
	if f, e := check.Formula(s); e != api.OK || !cnf.Same(f, want) || f.Vars != 12 {
		t.Error(f, e)
	}
	for i, x := range []struct {
		s string
		e api.Errno
	}{
		{"", api.ErrShort}, {"x", api.ErrWord}, {one + "ret 1 7", api.ErrOpen}, {one + "call 1 1", api.ErrNum}, {"object 0 1 0 0", api.ErrArg}, {one + calls(29), api.OK}, {one + calls(30), api.ErrBig}, {one + calls(65), api.ErrBig}, {flag + calls(28), api.OK}, {flag + calls(29), api.ErrBig},
	} {
		f, e := check.Formula(x.s)
		if e != x.e || e != api.OK && (f.Vars != 0 || len(f.Clauses) > 0) {
			t.Errorf("%d: %d", i, e)
		}
	}
}

func TestCheck(t *testing.T) {
	for i, x := range []struct {
		s      string
		budget int
		want   []api.Verdict // any one of these; a proof plays no part
	}{
		{one + "call 1 0\nret 1 7", 1000, []api.Verdict{{Kind: api.Linearizable, Picks: []api.Pick{{Oper: 0, Result: 7}}}}}, {one + "call 1 0\nret 1 7", 0, []api.Verdict{{Kind: api.Linearizable, Picks: []api.Pick{{Oper: 0, Result: 7}}}, {Kind: api.BudgetOut}}},
		{"", 9, []api.Verdict{{Kind: api.Malformed, At: 0, Err: api.ErrShort}}}, {one + "call 1 0\n call 1 0", 0, []api.Verdict{{Kind: api.Malformed, At: len(one) + 10, Err: api.ErrOpen}}}, {strings.Repeat(" ", api.MaxText+1), -5, []api.Verdict{{Kind: api.Malformed, At: 0, Err: api.ErrBig}}}, {one + "row", math.MaxInt, []api.Verdict{{Kind: api.Malformed, At: len(one), Err: api.ErrWord}}},
		{one + calls(30), 0, []api.Verdict{{Kind: api.TooLarge}}}, {one + calls(65), math.MaxInt, []api.Verdict{{Kind: api.TooLarge}}}, {one + calls(30), math.MinInt, []api.Verdict{{Kind: api.TooLarge}}},
		{one + "call 1 0\nret 1 6", 1000, []api.Verdict{{Kind: api.NotLinearizable}}}, {one + "call 1 0\nret 1 6", -1, []api.Verdict{{Kind: api.NotLinearizable}, {Kind: api.BudgetOut}}}, {flag + "call 2 1\nret 2 1", 1000, []api.Verdict{{Kind: api.NotLinearizable}}},
		{flag + "call 1 0\ncall 2 1\nret 2 1", 1000, []api.Verdict{{Kind: api.Linearizable, Picks: []api.Pick{{Oper: 0}, {Oper: 1, Result: 1}}}}}, {flag + "call 1 0\nret 1 0\ncall 2 1\nret 2 0", 1000, []api.Verdict{{Kind: api.NotLinearizable}}},
	} {
		v := check.Check(x.s, x.budget)
		same := func(w api.Verdict) bool {
			w.Proof = v.Proof
			return verdict.Same(v, w)
		}
		if !slices.ContainsFunc(x.want, same) || verdict.Check(v) != api.OK || !check.Verify(x.s, v) {
			t.Errorf("%d: %v", i, v)
		}
	}
	if v := check.Check(one, 1000); v.Kind != api.Linearizable || len(v.Picks) > 0 {
		t.Error(v)
	}
}

func TestVerify(t *testing.T) {
	good, bad, large, broken := flag+"call 1 0\ncall 2 1\nret 2 1", flag+"call 2 1\nret 2 1", one+calls(30), one+"ret 1 7"
	p := check.Check(bad, 1000).Proof
	if len(p) == 0 {
		t.Fatal("no proof")
	}
	lin := api.Verdict{Kind: api.Linearizable, Picks: []api.Pick{{Oper: 0}, {Oper: 1, Result: 1}}}
	for i, x := range []struct {
		s    string
		v    api.Verdict
		want bool
	}{
		{good, lin, true}, {bad, lin, false}, {large, lin, false}, {broken, lin, false}, {good, api.Verdict{Kind: api.Linearizable}, false}, {good, api.Verdict{Kind: api.Linearizable, Picks: lin.Picks[1:]}, false}, {good, api.Verdict{Kind: api.Linearizable, Picks: []api.Pick{{Oper: 1, Result: 1}, {Oper: 0}}}, false}, {good, api.Verdict{Kind: api.Linearizable, Picks: lin.Picks, At: 1}, false},
		{bad, api.Verdict{Kind: api.NotLinearizable, Proof: p}, true}, {bad, api.Verdict{Kind: api.NotLinearizable}, false}, {bad, api.Verdict{Kind: api.NotLinearizable, Proof: p[:len(p)-1]}, false}, {good, api.Verdict{Kind: api.NotLinearizable, Proof: p}, false}, {bad, api.Verdict{Kind: api.NotLinearizable, Proof: p, Err: 1}, false},
		{good, api.Verdict{Kind: api.BudgetOut}, true}, {bad, api.Verdict{Kind: api.BudgetOut}, true}, {large, api.Verdict{Kind: api.BudgetOut}, false}, {broken, api.Verdict{Kind: api.BudgetOut}, false}, {good, api.Verdict{Kind: api.BudgetOut, At: 1}, false}, {bad, api.Verdict{Kind: api.BudgetOut, Proof: p}, false},
		{large, api.Verdict{Kind: api.TooLarge}, true}, {good, api.Verdict{Kind: api.TooLarge}, false}, {broken, api.Verdict{Kind: api.TooLarge}, false}, {large, api.Verdict{Kind: api.TooLarge, Err: api.ErrBig}, false},
		{broken, api.Verdict{Kind: api.Malformed, At: len(one), Err: api.ErrOpen}, true}, {broken, api.Verdict{Kind: api.Malformed, At: len(one) + 1, Err: api.ErrOpen}, false}, {broken, api.Verdict{Kind: api.Malformed, At: len(one), Err: api.ErrNum}, false}, {good, api.Verdict{Kind: api.Malformed, At: len(good), Err: api.ErrShort}, false}, {large, api.Verdict{Kind: api.Malformed, At: 0, Err: api.ErrBig}, false},
		{good, api.Verdict{}, false}, {good, api.Verdict{Kind: 6}, false},
	} {
		if check.Verify(x.s, x.v) != x.want {
			t.Errorf("%d: not %t", i, x.want)
		}
	}
}

// chance tells numbers that look like chance, always the same ones.
type chance uint64

func (c *chance) below(n int) int {
	*c = *c*6364136223846793005 + 1442695040888963407
	return int(uint64(*c)>>33) % n
}

// object tells an object of a few states and kinds.
func (c *chance) object() api.Object {
	o := api.Object{States: 1 + c.below(4), Kinds: 1 + c.below(3)}
	o.Init = c.below(o.States)
	for s := range o.States {
		for k := range o.Kinds {
			if c.below(5) > 0 {
				o.Rows = append(o.Rows, api.Row{State: s, Kind: k, Next: c.below(o.States), Result: c.below(2)})
			}
		}
	}
	return o
}

// events tells a history of at most so many events.
func (c *chance) events(kinds, most int) []api.Event {
	var l []api.Event
	open := map[int]int{}
	for range c.below(most + 1) {
		p := 1 + c.below(4)
		x := api.Event{What: api.Invoke, Process: p, N: c.below(kinds)}
		if _, ok := open[p]; ok {
			x = api.Event{What: api.Return, Process: p, N: c.below(2)}
			delete(open, p)
		} else {
			open[p] = x.N
		}
		l = append(l, x)
	}
	return l
}

// TestRight: of any histories a verdict is right, whatever the budget and the tuning.
func TestRight(t *testing.T) {
	var c chance
	kinds := map[int]int{}
	some := []int{0, 1, -1, 7, 100, 1000, math.MaxInt, math.MinInt}
	for range 1500 {
		o := c.object()
		l := c.events(o.Kinds, 14)
		s, e := histtext.Print(histtext.Case{Object: o, Events: l})
		if e != api.OK {
			t.Fatal(o, l, e)
		}
		ops, _ := oper.Of(l)
		lin, _ := search.Lin(o, ops)
		v := check.Check(s, 1000000)
		if want := map[bool]int{true: api.Linearizable, false: api.NotLinearizable}[lin]; v.Kind != want {
			t.Fatal(s, v, lin)
		}
		budget := c.below(40) - 5
		w := check.Tuned(s, budget, api.Tune{Restart: some[c.below(8)], Keep: some[c.below(8)], Decay: some[c.below(8)]})
		if w.Kind != v.Kind && w.Kind != api.BudgetOut {
			t.Fatal(s, w)
		}
		kinds[w.Kind]++
		f, _ := check.Formula(s)
		for _, x := range []api.Verdict{v, w} {
			if verdict.Check(x) != api.OK || !check.Verify(s, x) {
				t.Fatal(s, x)
			}
			if x.Kind == api.Linearizable && !witness.Is(o, ops, x.Picks) {
				t.Fatal(s, x)
			}
			if _, e := lrat.Check(f, x.Proof); x.Kind == api.NotLinearizable && e != api.OK {
				t.Fatal(s, x)
			}
			back(t, x)
		}
	}
	if kinds[api.Linearizable] < 100 || kinds[api.NotLinearizable] < 100 || kinds[api.BudgetOut] < 30 {
		t.Error("too few of one kind:", kinds)
	}
}

// back lets a verdict come back of its text.
func back(t *testing.T, v api.Verdict) {
	t.Helper()
	s, e := verdict.Print(v)
	w, _, e2 := verdict.Parse(s)
	if e != api.OK || e2 != api.OK || !verdict.Same(v, w) {
		t.Fatal(v, w)
	}
}

// TestOther: of changed verdicts only those are taken that are right, too.
func TestOther(t *testing.T) {
	var c chance = 4
	for range 300 {
		o := c.object()
		l := c.events(o.Kinds, 8)
		s, _ := histtext.Print(histtext.Case{Object: o, Events: l})
		ops, _ := oper.Of(l)
		v := check.Check(s, 1000)
		if len(v.Picks) > 0 {
			v.Picks[c.below(len(v.Picks))].Result += c.below(2)
			k := c.below(len(v.Picks))
			v.Picks[0], v.Picks[k] = v.Picks[k], v.Picks[0]
		}
		if len(v.Proof) > 0 {
			k := c.below(len(v.Proof))
			v.Proof = append(v.Proof[:k:k], v.Proof[k+1:]...)
		}
		f, _ := check.Formula(s)
		_, e := lrat.Check(f, v.Proof)
		_, pe := proof.Check(v.Proof)
		want := v.Kind == api.Linearizable && witness.Is(o, ops, v.Picks) || v.Kind == api.NotLinearizable && e == api.OK && pe == api.OK
		if check.Verify(s, v) != want {
			t.Fatal(s, v, want)
		}
	}
}

// TestBytes: of any bytes there is a verdict, which is taken.
func TestBytes(t *testing.T) {
	var c chance = 8
	text := flag + "call 1 0\ncall 2 1\nret 2 1\nret 1 0\n"
	for range 3000 {
		b := []byte(text)
		for range 1 + c.below(3) {
			b[c.below(len(b))] = "0123456789 -\nxc\x00\xff"[c.below(17)]
		}
		s := string(b[:c.below(len(b)+1)])
		_, at, e := histtext.Parse(s)
		v := check.Check(s, 100)
		if (v.Kind == api.Malformed) != (e != api.OK) || v.Kind == api.Malformed && (v.At != at || v.Err != e) || !check.Verify(s, v) {
			t.Fatalf("%q: %v, %d, %d", s, v, at, e)
		}
	}
}
