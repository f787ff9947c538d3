package search

import (
	"trail/literal"
	"trail/texts"
)

// step is what pushing from assumptions and decisions made known in the component of these decisions.
type step struct {
	decided literal.Set
	vars    int
	known   literal.Set
}

// makeRoom drops a learnt clause if there are as many as may be, so that one more can be learnt of decisions by which pushing comes to a clash; false, if there is no room for that line.
func (s *search) makeRoom(decided literal.Set) bool {
	if s.room.Reduce == 0 || len(s.learnt) < s.room.Reduce {
		return true
	}
	clause := s.longestIdle(decided)
	if !s.write(texts.Drops, clause) {
		return false
	}
	s.stands.Drop(clause)
	s.learnt = literal.LeaveOut(s.learnt, clause)
	s.room.Held += clause.Size()
	return true
}

// longestIdle is, of the learnt clauses that are idle, the first of those with the most literals: it says the least.
//
// Of more than ten one is idle. It takes one clause to make a literal known that is neither assumed nor decided, and one to clash. There are ten variables, each is known at most once ahead of the clash, and one at least is decided: so ten clauses are enough to come to where the search is, in all components together, since pushing goes from none to another.
func (s *search) longestIdle(decided literal.Set) literal.Set {
	var longest literal.Set
	for _, clause := range s.learnt {
		if clause.Size() <= longest.Size() {
			continue
		}
		idle := s.isIdle(clause, decided)
		if idle {
			longest = clause
		}
	}
	return longest
}

// isIdle tells whether without a learnt clause the search would come to where it is by the same steps, and to a clash there. Without one that is not idle it could go in a circle.
func (s *search) isIdle(clause, decided literal.Set) bool {
	s.stands.Drop(clause)
	_, idle := s.stands.Push(decided)
	if idle {
		idle = s.repeats(s.path)
	}
	if idle {
		idle = s.repeats(s.done)
	}
	s.stands.Add(clause, 1)
	return idle
}

// repeats tells whether over what stands there pushing makes the same known as it did in these steps.
func (s *search) repeats(steps []step) bool {
	for _, p := range steps {
		// In other components more may be known by now.
		known, _ := s.stands.Push(p.decided)
		if known.Within(p.vars) != p.known {
			return false
		}
	}
	return true
}
