// Package pushing has clauses to push over.
package pushing

import (
	"trail/api"
	"trail/literal"
)

// Clauses is what stands there: clauses as sets, each as often as it was added.
//
// They lie in a tree that parts at each variable, so that a search goes to few of them even if all that may be stand there.
type Clauses struct {
	nodes []node
}

// node is where the clauses come together that are alike in the first variables; below all ten there is one clause alone, and copies tells how often it stands there.
type node struct {
	// next has the places in nodes for the four ways in which a clause may have the next variable, or 0.
	next   [4]int
	copies int
}

// The ways in which a clause may have a variable; the fourth is both signs.
const (
	without  = 0
	positive = 1
	negative = 2
)

// New is no clause.
func New() *Clauses {
	return &Clauses{nodes: []node{{}}}
}

// Add adds some copies of a clause.
func (c *Clauses) Add(set literal.Set, copies int) {
	at := 0
	for v := 1; v <= api.MaxVar; v++ {
		at = c.grow(at, way(set, v))
	}
	c.nodes[at].copies += copies
}

// way is one of the four, by the signs that a variable has in a clause.
func way(set literal.Set, v int) int {
	w := without
	if set.Has(v) {
		w += positive
	}
	if set.Has(-v) {
		w += negative
	}
	return w
}

// grow goes one way from a node, to a new node if there was none.
func (c *Clauses) grow(at, w int) int {
	if c.nodes[at].next[w] == 0 {
		c.nodes[at].next[w] = len(c.nodes)
		c.nodes = append(c.nodes, node{})
	}
	return c.nodes[at].next[w]
}

// Drop drops one copy of a clause; false, if none stands there.
func (c *Clauses) Drop(set literal.Set) bool {
	at := 0
	for v := 1; v <= api.MaxVar; v++ {
		at = c.nodes[at].next[way(set, v)]
		if at == 0 {
			return false
		}
	}
	if c.nodes[at].copies == 0 {
		return false
	}
	c.nodes[at].copies--
	return true
}

// Follows tells whether a clause follows by pushing.
func (c *Clauses) Follows(set literal.Set) bool {
	_, clash := c.Push(set.Opposites())
	return clash
}

// Push pushes from some literals: what is known at the end, and false; or the empty set and true, if it comes to a clash.
func (c *Clauses) Push(from literal.Set) (literal.Set, bool) {
	known := from
	for !known.IsTautology() {
		p := pass{nodes: c.nodes, known: known, grown: known}
		p.visit(0, 1, 0)
		if p.clash {
			return literal.Set{}, true
		}
		if p.grown == known {
			return known, false
		}
		known = p.grown
	}
	return literal.Set{}, true
}

// pass goes once over the clauses. What it finds is laid in grown and not in known: the way to a node was chosen by what was known then.
type pass struct {
	nodes []node
	known literal.Set
	grown literal.Set
	clash bool
}

// visit goes to the clauses below a node that part at the variables from v on. Of their literals ahead of v at most one is open, the others are known not to be so; open is that one, or 0.
func (p *pass) visit(at, v, open int) {
	if p.clash {
		return
	}
	if v > api.MaxVar {
		p.meet(p.nodes[at].copies, open)
		return
	}
	next := p.nodes[at].next
	if next[without] != 0 {
		p.visit(next[without], v+1, open)
	}
	if next[positive] != 0 {
		p.visitWith(next[positive], v, v, open)
	}
	// Clauses with both signs are passed over: as long as no variable is known with both, a tautology makes nothing known.
	if next[negative] != 0 {
		p.visitWith(next[negative], v, -v, open)
	}
}

// visitWith goes to a node whose clauses have the literal n, of the variable v.
func (p *pass) visitWith(at, v, n, open int) {
	if p.known.Has(-n) {
		p.visit(at, v+1, open)
		return
	}
	// A clause with a literal that is known, or with two that are open, makes nothing known.
	if open == 0 && !p.known.Has(n) {
		p.visit(at, v+1, n)
	}
}

// meet is the end of a way: a clause whose literals are all known not to be so, but for open.
func (p *pass) meet(copies, open int) {
	if copies == 0 {
		return
	}
	if open == 0 {
		p.clash = true
		return
	}
	p.grown = p.grown.With(open)
}
