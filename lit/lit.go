// Package lit is layer 1: literals, their variables and their indices.
package lit

import (
	"slices"

	"replevin/api"
)

// literal is a number that is asked what kind of literal it is.
type literal int

// variable tells the variable of a literal; 0 of another number.
func (l literal) variable() int {
	switch {
	case l >= 1 && l <= api.MaxVars:
		return int(l)
	case l >= -api.MaxVars && l <= -1:
		return -int(l)
	}
	return 0
}

// Check tells whether a number is a literal of so many variables.
func Check(lit, vars int) api.Errno {
	if vars < 0 || vars > api.MaxVars {
		return api.ErrArg
	}
	if v := Var(lit); v == 0 || v > vars {
		return api.ErrLit
	}
	return api.OK
}

// Var tells a literal's variable; 0 of another number.
func Var(lit int) int { return literal(lit).variable() }

// Neg tells the opposite literal; 0 of another number.
func Neg(lit int) int {
	if Var(lit) == 0 {
		return 0
	}
	return -lit
}

// Make makes the literal that says that a variable is truth.
func Make(v int, truth bool) (int, api.Errno) {
	switch {
	case v < 1 || v > api.MaxVars:
		return 0, api.ErrLit
	case truth:
		return v, api.OK
	}
	return -v, api.OK
}

// Index tells a literal's index; -1 of another number.
func Index(lit int) int {
	v := Var(lit)
	if lit < 0 && v != 0 {
		return 2*v - 1
	}
	if v != 0 {
		return 2*v - 2
	}
	return -1
}

// From tells the literal of an index; 0 if there is none.
func From(index int) int {
	if index < 0 || index >= 2*api.MaxVars {
		return 0
	}
	v := index/2 + 1
	if index%2 == 1 {
		return -v
	}
	return v
}

// Of tells which literals of a variable there are: 1, -1, both (2) or none (0).
func Of(lits []int, v int) int {
	if v < 1 || v > api.MaxVars {
		return 0
	}
	there := func(want int) bool { return slices.Contains(lits, want) }
	yes, no := there(v), there(-v)
	switch {
	case yes && no:
		return 2
	case yes:
		return 1
	case no:
		return -1
	}
	return 0
}

// Most tells the greatest variable; 0 of none.
func Most(lits []int) int {
	most := 0
	for _, l := range lits {
		ask := literal(l).variable
		most = max(most, ask())
	}
	return most
}
