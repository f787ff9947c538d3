// Package components has the components of clauses.
package components

import "trail/literal"

// Of has the components of some clauses, each as its variables' bits, and by itself each variable that was seen but that no clause has. None of the clauses is a tautology, and none is empty.
func Of(clauses []literal.Set, seen int) []int {
	found := apart(seen)
	for _, c := range clauses {
		found = link(found, c.Vars())
	}
	return found
}

// apart has each of the variables by itself.
func apart(vars int) []int {
	var found []int
	for vars != 0 {
		least := vars & -vars
		found = append(found, least)
		vars &^= least
	}
	return found
}

// link makes one component of the variables of a clause and of all components that have one of them.
func link(components []int, vars int) []int {
	var linked []int
	for _, c := range components {
		// Components have no variable in common, so that none that was passed over is reached by what is added here.
		if c&vars != 0 {
			vars |= c
		} else {
			linked = append(linked, c)
		}
	}
	return append(linked, vars)
}
