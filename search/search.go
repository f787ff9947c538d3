// Package search seeks values by which clauses and assumptions are so, and learns clauses on the way.
package search

import (
	"trail/api"
	"trail/literal"
	"trail/pushing"
	"trail/texts"
)

// Room is how much one search may add to what there was ahead of it.
type Room struct {
	// Budget is how many clauses it may learn; 0: any number.
	Budget int
	// Held is how many literals these may have together.
	Held int
	// Log is the size that all its lines may have together.
	Log int
}

// search is what one search has come to. Its room becomes less by what it adds.
type search struct {
	stands  *pushing.Clauses
	assume  []int
	assumed literal.Set
	room    Room
	learnt  int
	lines   []texts.Line
	values  literal.Set
	answer  api.Answer
}

// Run seeks values for the variables of all components, over what stands there, with the assumptions (P10 to P14). These are literals, of variables of the components. It tells the answer and the lines that it wrote; what it learnt stands there then.
func Run(stands *pushing.Clauses, components, assume []int, room Room) (api.Answer, []texts.Line) {
	assumed, _ := literal.Of(assume)
	s := search{stands: stands, assume: assume, assumed: assumed, room: room}
	// First a look without any variable: the empty clause is in no component, and a clash without decisions is found ahead of all learning.
	going := s.seek(0)
	for _, vars := range components {
		if going {
			going = s.seek(vars)
		}
	}
	if going {
		s.answer = api.Answer{Status: api.Sat, Values: s.values.List()}
	}
	return s.answer, s.lines
}

// seek finds values for the variables of one component; false, if there is another answer than Sat. Its decisions are of this component alone, because what it learns is made of them (P12).
//
// It ends: each turn makes a decision more, or learns a clause that was not there.
func (s *search) seek(vars int) bool {
	decided := s.assumed
	for {
		known, clash := s.stands.Push(decided)
		if clash && decided == s.assumed {
			s.end()
			return false
		}
		if clash {
			if !s.refute(decided) {
				return false
			}
			// No decision is kept: over what stands there now it may be none any more (see learn).
			decided = s.assumed
			continue
		}
		v := literal.FirstVar(vars &^ known.Vars())
		if v == 0 {
			s.values = s.values.Join(known.Within(vars))
			return true
		}
		decided = decided.With(v)
	}
}

// end ends the search because pushing from the assumptions alone comes to a clash.
func (s *search) end() {
	core := s.needed(s.assumed)
	if s.write(texts.Ends, core.Opposites()) {
		s.answer = api.Answer{Status: api.Unsat, Core: inOrder(core, s.assume)}
	}
}

// refute learns that decisions and assumptions by which pushing comes to a clash can't all be right; false, if there is no room for that.
func (s *search) refute(decided literal.Set) bool {
	needed := s.needed(decided)
	return s.learn(needed.Opposites())
}

// needed leaves out the assumptions without which pushing comes to a clash too, so that what is learnt holds for more Solves, and a core has less. All that is left is of one component (P12): pushing goes from none to another, so that a clash needs no assumption of another.
func (s *search) needed(decided literal.Set) literal.Set {
	for _, n := range s.assume {
		less := decided.Without(n)
		_, clash := s.stands.Push(less)
		if clash {
			decided = less
		}
	}
	return decided
}

// inOrder has the literals of a set in their order in a list, each where it stands there first.
func inOrder(set literal.Set, list []int) []int {
	var l []int
	for _, n := range list {
		if set.Has(n) {
			l = append(l, n)
			set = set.Without(n)
		}
	}
	return l
}

// learn adds a clause; false, if there is no room for it.
//
// The clause is none of those that stand there: they are the same since the first decision, so that pushing from the assumptions and all decisions but the last would have come to a clash, or made the opposite of the last one known, and it would not have been decided.
func (s *search) learn(clause literal.Set) bool {
	if s.room.Budget > 0 && s.learnt >= s.room.Budget {
		s.answer = unknown(api.ByBudget, literal.Set{})
		return false
	}
	if clause.Size() > s.room.Held {
		s.answer = unknown(api.ByHeld, clause)
		return false
	}
	if !s.write(texts.Adds, clause) {
		return false
	}
	s.room.Held -= clause.Size()
	s.learnt++
	s.stands.Add(clause, 1)
	return true
}

// write writes a line; false, if there is no room for it.
func (s *search) write(letter byte, clause literal.Set) bool {
	line := texts.Line{Letter: letter, Literals: clause.List()}
	if line.Size() > s.room.Log {
		s.answer = unknown(api.ByLog, clause)
		return false
	}
	s.room.Log -= line.Size()
	s.lines = append(s.lines, line)
	return true
}

func unknown(reason int, clause literal.Set) api.Answer {
	return api.Answer{Status: api.Unknown, Reason: reason, Clause: clause.List()}
}
