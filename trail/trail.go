// Package trail: a solver for clauses that keeps a proof, and a reader of proofs: see DOC.md.
package trail

import (
	"trail/api"
	"trail/literal"
	"trail/proofs"
	"trail/pushing"
	"trail/texts"
)

// Solver has taken clauses, and keeps a proof.
type Solver struct {
	settings api.Settings
	// Any number of empty clauses may be taken, so they are counted and not held.
	taken []literal.Set
	empty int
	// Variables seen are kept apart from taken: assumptions are seen too.
	seen   int
	learnt []literal.Set
	proof  []byte
	size   int
	unsat  int
}

// Read reads a text of clauses (P3).
func Read(text string) ([][]int, api.Errno, int) { return texts.Read(text) }

// Write writes clauses as a text (P4).
func Write(clauses [][]int) (string, api.Errno) { return texts.Write(clauses) }

// New makes a solver (P5).
func New(s api.Settings) (*Solver, api.Errno) {
	if !isReduce(s.Reduce) || !isRoom(s.Held) || !isRoom(s.Log) {
		return nil, api.ErrSet
	}
	return &Solver{settings: s}, api.OK
}

func isReduce(n int) bool {
	return n == 0 || n >= api.MinReduce && n <= api.MaxReduce
}

func isRoom(n int) bool {
	return n >= 0 && n <= api.MaxRoom
}

// Add takes a clause (P6).
func (x *Solver) Add(clause []int) api.Errno {
	set, right := literal.Of(clause)
	if !right {
		return api.ErrLit
	}
	if set.IsTautology() {
		return api.OK
	}
	if set.Size() == 0 {
		x.empty++
		return api.OK
	}
	if set.Size()+literal.Total(x.taken) > api.MaxLits {
		return api.ErrFull
	}
	x.taken = append(x.taken, set)
	x.seen |= set.Vars()
	return api.OK
}

// Counts tells of the solver (P7).
func (x *Solver) Counts() api.Counts {
	return api.Counts{
		Vars:    literal.CountVars(x.seen),
		Clauses: len(x.taken) + x.empty,
		Lits:    literal.Total(x.taken),
		Learnt:  len(x.learnt),
		Held:    literal.Total(x.learnt),
		Log:     x.size,
		Unsat:   x.unsat,
	}
}

// Proof is the proof since the last Reset (P7).
func (x *Solver) Proof() string { return string(x.proof) }

// Reset makes the solver as New made it (P7).
func (x *Solver) Reset() { *x = Solver{settings: x.settings} }

// Check reads a proof over clauses (P8).
func Check(clauses [][]int, proof string) ([]int, api.Errno, int) {
	if len(proof) > api.MaxProof {
		return nil, api.ErrLong, 0
	}
	var x Solver
	for i, c := range clauses {
		err := x.Add(c)
		if err != api.OK {
			return nil, err, i
		}
	}
	stands := x.standing()
	return proofs.Check(stands, proof)
}

// standing is what stands there: all clauses that were taken or learnt.
func (x *Solver) standing() *pushing.Clauses {
	c := pushing.New()
	c.Add(literal.Set{}, x.empty)
	for _, set := range x.taken {
		c.Add(set, 1)
	}
	for _, set := range x.learnt {
		c.Add(set, 1)
	}
	return c
}
