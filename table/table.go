// Package table keeps literals that hold, so that the value of one is told without going through them all.
package table

import (
	"replevin/lit"
)

// Table is literals that hold, by their index.
type Table struct{ there []bool }

// Of makes a table of literals; numbers that are none play no part.
func Of(l []int) *Table {
	t := &Table{}
	if most := lit.Most(l); most > 0 {
		t.there = make([]bool, 2*most)
	}
	for _, x := range l {
		t.Add(x)
	}
	return t
}

// Add lets a literal hold.
func (t *Table) Add(x int) {
	i := lit.Index(x)
	if i < 0 {
		return
	}
	if i >= len(t.there) {
		t.there = append(t.there, make([]bool, i+1-len(t.there))...)
	}
	t.there[i] = true
}

// Value tells a literal's value: 1 if it holds, else -1 if its opposite does, else 0 (also of a number that is no literal).
func (t *Table) Value(x int) int {
	i := lit.Index(x)
	switch {
	case i < 0:
		return 0
	case i < len(t.there) && t.there[i]:
		return 1
	case i^1 < len(t.there) && t.there[i^1]:
		return -1
	}
	return 0
}

// Clause tells a clause's value: 1 if a literal holds, -1 if none holds or is open, else 0; and of a clause in which just one place is open, and none holds, the literal there (else 0).
func (t *Table) Clause(c []int) (value, unit int) {
	open := 0
	for _, x := range c {
		switch v := t.Value(x); {
		case v > 0:
			return 1, 0
		case v == 0 && lit.Var(x) != 0:
			open++
			unit = x
		}
	}
	switch open {
	case 0:
		return -1, 0
	case 1:
		return 0, unit
	}
	return 0, 0
}
