// Package search seeks values by which clauses are so, and learns clauses on the way.
package search

import (
	"trail/api"
	"trail/literal"
	"trail/pushing"
	"trail/texts"
)

// Room is how much one search may add to what there was ahead of it.
type Room struct {
	// Budget is how many clauses it may learn; 0: any number.
	Budget int
	// Held is how many literals these may have together.
	Held int
	// Log is the size that all its lines may have together.
	Log int
}

// search is what one search has come to. Its room becomes less by what it adds.
type search struct {
	stands *pushing.Clauses
	room   Room
	learnt int
	lines  []texts.Line
	values literal.Set
	answer api.Answer
}

// Run seeks values for the variables of all components, over what stands there (P10 to P14). It tells the answer and the lines that it wrote; what it learnt stands there then.
func Run(stands *pushing.Clauses, components []int, room Room) (api.Answer, []texts.Line) {
	s := search{stands: stands, room: room}
	// The empty clause is in no component, so that there must be a look without any variable.
	going := s.seek(0)
	for _, vars := range components {
		if going {
			going = s.seek(vars)
		}
	}
	if going {
		s.answer = api.Answer{Status: api.Sat, Values: s.values.List()}
	}
	return s.answer, s.lines
}

// seek finds values for the variables of one component; false, if there is another answer than Sat. Its decisions are of this component alone, because what it learns is made of them (P12).
//
// It ends: each turn makes a decision more, or learns a clause that was not there.
func (s *search) seek(vars int) bool {
	var decided literal.Set
	for {
		known, clash := s.stands.Push(decided)
		if clash {
			if !s.refute(decided) {
				return false
			}
			// No decision is kept: over what stands there now it may be none any more (see learn).
			decided = literal.Set{}
			continue
		}
		v := literal.FirstVar(vars &^ known.Vars())
		if v == 0 {
			s.values = s.values.Join(known.Within(vars))
			return true
		}
		decided = decided.With(v)
	}
}

// refute writes that decisions by which pushing comes to a clash can't all be right; false, if the search ends with that.
func (s *search) refute(decided literal.Set) bool {
	clause := decided.Opposites()
	if clause.Size() > 0 {
		return s.learn(clause)
	}
	if s.write(texts.Ends, clause) {
		s.answer = api.Answer{Status: api.Unsat}
	}
	return false
}

// learn adds a clause; false, if there is no room for it.
//
// The clause is none of those that stand there: they are the same since the first decision, so that pushing from all decisions but the last would have made the opposite of the last one known, and it would not have been decided.
func (s *search) learn(clause literal.Set) bool {
	if s.room.Budget > 0 && s.learnt >= s.room.Budget {
		s.answer = unknown(api.ByBudget, literal.Set{})
		return false
	}
	if clause.Size() > s.room.Held {
		s.answer = unknown(api.ByHeld, clause)
		return false
	}
	if !s.write(texts.Adds, clause) {
		return false
	}
	s.room.Held -= clause.Size()
	s.learnt++
	s.stands.Add(clause, 1)
	return true
}

// write writes a line; false, if there is no room for it.
func (s *search) write(letter byte, clause literal.Set) bool {
	line := texts.Line{Letter: letter, Literals: clause.List()}
	if line.Size() > s.room.Log {
		s.answer = unknown(api.ByLog, clause)
		return false
	}
	s.room.Log -= line.Size()
	s.lines = append(s.lines, line)
	return true
}

func unknown(reason int, clause literal.Set) api.Answer {
	return api.Answer{Status: api.Unknown, Reason: reason, Clause: clause.List()}
}
