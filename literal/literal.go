// Package literal has literals, and clauses as sets of them.
package literal

import "trail/api"

// Set is what a clause says, whatever the order and the repeats of its literals: bit v of True stands for the literal v, bit v of False for -v.
type Set struct {
	True, False int
}

// Is tells whether a number is a literal.
func Is(n int) bool {
	// The bounds are tested one by one because the least int has no opposite.
	return n != 0 && n >= -api.MaxVar && n <= api.MaxVar
}

// Of makes a set of literals; false, if one of the numbers is none.
func Of(literals []int) (Set, bool) {
	var s Set
	for _, n := range literals {
		if !Is(n) {
			return Set{}, false
		}
		s = s.With(n)
	}
	return s, true
}

// With is the set and one literal more.
func (s Set) With(n int) Set {
	s.True |= bit(n)
	s.False |= bit(-n)
	return s
}

// Without is the set but for one literal.
func (s Set) Without(n int) Set {
	s.True &^= bit(n)
	s.False &^= bit(-n)
	return s
}

// Has tells whether a literal is in the set.
func (s Set) Has(n int) bool {
	return s.True&bit(n) != 0 || s.False&bit(-n) != 0
}

// Opposites has the opposite of each literal of the set.
func (s Set) Opposites() Set {
	return Set{True: s.False, False: s.True}
}

// Join is both sets together.
func (s Set) Join(more Set) Set {
	return Set{True: s.True | more.True, False: s.False | more.False}
}

// Within has the literals of the set whose variables have their bits there.
func (s Set) Within(vars int) Set {
	return Set{True: s.True & vars, False: s.False & vars}
}

// List has the literals of the set, by their variables in rising order.
func (s Set) List() []int {
	var l []int
	for v := 1; v <= api.MaxVar; v++ {
		if s.Has(v) {
			l = append(l, v)
		}
		if s.Has(-v) {
			l = append(l, -v)
		}
	}
	return l
}

// IsTautology tells whether a literal and its opposite are in the set.
func (s Set) IsTautology() bool {
	return s.True&s.False != 0
}

// Size is the number of literals in the set.
func (s Set) Size() int {
	return CountVars(s.True) + CountVars(s.False)
}

// Vars has bit v for each variable v of the set.
func (s Set) Vars() int {
	return s.True | s.False
}

// CountVars is the number of variables of which the bit is there.
func CountVars(vars int) int {
	n := 0
	for v := 1; v <= api.MaxVar; v++ {
		if vars&bit(v) != 0 {
			n++
		}
	}
	return n
}

// FirstVar is the least variable of which the bit is there, or 0.
func FirstVar(vars int) int {
	for v := 1; v <= api.MaxVar; v++ {
		if vars&bit(v) != 0 {
			return v
		}
	}
	return 0
}

// Total is the number of literals that the sets have together.
func Total(sets []Set) int {
	n := 0
	for _, s := range sets {
		n += s.Size()
	}
	return n
}

// LeaveOut has the sets but for the first that is like this one.
func LeaveOut(sets []Set, set Set) []Set {
	var l []Set
	found := false
	for _, s := range sets {
		if s == set && !found {
			found = true
			continue
		}
		l = append(l, s)
	}
	return l
}

// bit is 0 for what is no variable: no shift goes astray, and of n and -n at most one has a bit.
func bit(v int) int {
	if v < 1 || v > api.MaxVar {
		return 0
	}
	return 1 << v
}
