package token_test

import (
	"math"
	"slices"
	"strings"
	"testing"

	"replevin/api"
	"replevin/token"
)

func same(a, b [][]token.Token) bool {
	return slices.EqualFunc(a, b, func(x, y []token.Token) bool { return slices.Equal(x, y) })
}

func TestLines(t *testing.T) {
	for _, x := range []struct {
		s    string
		want [][]token.Token
	}{
		{"", nil},
		{"\n", [][]token.Token{nil}},
		{"\n\n", [][]token.Token{nil, nil}},
		{" ", [][]token.Token{nil}},
		{"p 12", [][]token.Token{{{1, 0, "p"}, {1, 2, "12"}}}},
		{"p 12\n", [][]token.Token{{{1, 0, "p"}, {1, 2, "12"}}}},
		{"a\n\tb \r c\n\nd", [][]token.Token{{{1, 0, "a"}}, {{2, 3, "b"}, {2, 7, "c"}}, nil, {{4, 10, "d"}}}},
		{"c\nc \nc x y\ncx\n c x\nc\r\nc\tx\n", [][]token.Token{nil, nil, nil, {{4, 11, "cx"}}, {{5, 15, "c"}, {5, 17, "x"}}, {{6, 19, "c"}}, {{7, 22, "c"}, {7, 24, "x"}}}},
		{"c", [][]token.Token{nil}},
		{"c 1", [][]token.Token{nil}},
		{"\x00\xff \v\f\u00a0", [][]token.Token{{{1, 0, "\x00\xff"}, {1, 3, "\v\f\u00a0"}}}},
		{"a\r\nb\r\n", [][]token.Token{{{1, 0, "a"}}, {{2, 3, "b"}}}},
	} {
		if got := token.Lines(x.s); !same(got, x.want) {
			t.Errorf("%q: %v, not %v", x.s, got, x.want)
		}
	}
}

func TestNumber(t *testing.T) {
	long := strings.Repeat("9", 100)
	for _, x := range []struct {
		s      string
		lo, hi int
		want   int
		e      api.Errno
	}{
		{"0", 0, 9, 0, api.OK}, {"9", 0, 9, 9, api.OK}, {"10", 0, 9, 0, api.ErrNum}, {"-1", 0, 9, 0, api.ErrNum},
		{"-7", -9, 9, -7, api.OK}, {"-10", -9, 9, 0, api.ErrNum}, {"10", 10, 10, 10, api.OK}, {"5", 9, 0, 0, api.ErrNum},
		{"007", 0, 9, 0, api.ErrForm}, {"00", 0, 9, 0, api.ErrForm}, {"-0", -9, 9, 0, api.ErrForm}, {"-07", -9, 9, 0, api.ErrForm},
		{"", 0, 9, 0, api.ErrForm}, {"-", -9, 9, 0, api.ErrForm}, {"--1", -9, 9, 0, api.ErrForm}, {"+1", 0, 9, 0, api.ErrForm},
		{"1x", 0, 9, 0, api.ErrForm}, {"x1", 0, 9, 0, api.ErrForm}, {" 1", 0, 9, 0, api.ErrForm}, {"1 ", 0, 9, 0, api.ErrForm},
		{"1_0", 0, 99, 0, api.ErrForm}, {"0x1", 0, 99, 0, api.ErrForm}, {"1e1", 0, 99, 0, api.ErrForm}, {"\u0661", 0, 9, 0, api.ErrForm},
		{"/", 0, 99, 0, api.ErrForm}, {":", 0, 99, 0, api.ErrForm},
		{"9223372036854775807", math.MinInt, math.MaxInt, math.MaxInt, api.OK},
		{"-9223372036854775808", math.MinInt, math.MaxInt, math.MinInt, api.OK},
		{"9223372036854775808", math.MinInt, math.MaxInt, 0, api.ErrNum},
		{"-9223372036854775809", math.MinInt, math.MaxInt, 0, api.ErrNum},
		{"18446744073709551617", 0, 9, 0, api.ErrNum},
		{long, math.MinInt, math.MaxInt, 0, api.ErrNum}, {"-" + long, math.MinInt, math.MaxInt, 0, api.ErrNum},
		{"0" + long, math.MinInt, math.MaxInt, 0, api.ErrForm}, {long + "x", 0, 9, 0, api.ErrForm},
	} {
		if got, e := token.Number(x.s, x.lo, x.hi); got != x.want || e != x.e {
			t.Errorf("Number(%q, %d, %d) = %d, %d", x.s, x.lo, x.hi, got, e)
		}
	}
}

func TestDigits(t *testing.T) {
	for n, want := range map[int]string{0: "0", 7: "7", -7: "-7", 1000000: "1000000", math.MaxInt: "9223372036854775807", math.MinInt: "-9223372036854775808"} {
		if got := token.Digits(n); got != want {
			t.Errorf("Digits of %d: %s", n, got)
		}
		if back, e := token.Number(want, math.MinInt, math.MaxInt); back != n || e != api.OK {
			t.Errorf("%s came back as %d", want, back)
		}
	}
}

func TestWord(t *testing.T) {
	for s, want := range map[string]bool{"": false, "a": true, "c": true, "a b": false, "a\t": false, "\ra": false, "a\n": false, "\x00\xff": true, "\v": true} {
		if token.Word(s) != want {
			t.Errorf("Word of %q is not %t", s, want)
		}
	}
}

func TestJoin(t *testing.T) {
	for _, x := range []struct{ s, want string }{
		{"", ""}, {" a \t b\r\n\nc d\ne", "a b\n\n\ne\n"}, {"\n", "\n"}, {"x", "x\n"},
	} {
		if got := token.Join(token.Lines(x.s)); got != x.want {
			t.Errorf("Join of %q: %q", x.s, got)
		}
	}
}

// TestWhole goes through all texts of up to six bytes of a few kinds.
func TestWhole(t *testing.T) {
	texts := []string{""}
	for i := 0; i < len(texts); i++ {
		s := texts[i]
		checkWhole(t, s)
		for _, b := range "c1 \n\r" {
			if len(s) < 6 {
				texts = append(texts, s+string(b))
			}
		}
	}
}

func checkWhole(t *testing.T, s string) {
	lines := token.Lines(s)
	rows := strings.SplitAfter(s, "\n")
	if rows[len(rows)-1] == "" {
		rows = rows[:len(rows)-1]
	}
	if len(lines) != len(rows) {
		t.Fatalf("%q has %d lines", s, len(lines))
	}
	at := 0
	for i, row := range rows {
		left := []byte(row)
		for _, x := range lines[i] {
			if x.Line != i+1 || x.At < at || !token.Word(x.Text) || s[x.At:x.At+len(x.Text)] != x.Text {
				t.Fatalf("%q: %v", s, x)
			}
			for k := range len(x.Text) {
				left[x.At-at+k] = ' '
			}
		}
		remark := strings.HasPrefix(row, "c ") || strings.TrimSuffix(row, "\n") == "c"
		if rest := strings.Trim(string(left), " \t\r\n"); remark && len(lines[i]) > 0 || !remark && rest != "" {
			t.Fatalf("%q: left %q", s, rest)
		}
		if want := len(strings.Fields(row)); !remark && len(lines[i]) != want {
			t.Fatalf("%q: %d tokens, not %d", s, len(lines[i]), want)
		}
		at += len(row)
	}
}
