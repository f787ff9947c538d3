// Package search seeks values by which clauses and assumptions are so, and learns and drops clauses on the way.
package search

import (
	"trail/api"
	"trail/literal"
	"trail/pushing"
	"trail/texts"
)

// Room is how much one search may add to what there was ahead of it, but for Reduce.
type Room struct {
	// Budget is how many clauses it may learn; 0: any number.
	Budget int
	// Reduce is how many learnt clauses there may be, with those of earlier searches; 0: any number. It is 0 or above ten (see longestIdle).
	Reduce int
	// Held is how many literals more the learnt clauses may have together.
	Held int
	// Log is the size that all its lines may have together.
	Log int
}

// search is what one search has come to. Its room becomes less by what it adds, and Held greater by what it drops.
type search struct {
	stands  *pushing.Clauses
	assume  []int
	assumed literal.Set
	room    Room
	// learnt has the learnt clauses that are there, those of earlier searches too; spent is how many this search learnt.
	learnt []literal.Set
	spent  int
	// path is how the search came to its last decision in this component, done how it found values for earlier ones.
	path   []step
	done   []step
	lines  []texts.Line
	values literal.Set
	answer api.Answer
}

// Run seeks values for the variables of all components, over what stands there, with the assumptions (P10 to P15). These are literals, of variables of the components. Of the clauses that stand there learnt has those that were learnt, which alone may be dropped. It tells the answer and the lines that it wrote; what stands there is changed by these.
func Run(stands *pushing.Clauses, learnt []literal.Set, components, assume []int, room Room) (api.Answer, []texts.Line) {
	assumed, _ := literal.Of(assume)
	s := search{stands: stands, assume: assume, assumed: assumed, room: room}
	s.learnt = append(s.learnt, learnt...)
	// First a look without any variable: the empty clause is in no component, and a clash without decisions is found ahead of all learning.
	going := s.seek(0)
	for _, vars := range components {
		if going {
			going = s.seek(vars)
		}
	}
	if going {
		s.answer = api.Answer{Status: api.Sat, Values: s.values.List()}
	}
	return s.answer, s.lines
}

// seek finds values for the variables of one component; false, if there is another answer than Sat. Its decisions are of this component alone, because what it learns is made of them (P12).
//
// It ends: each turn makes a decision more, or learns a clause by which the opposite of the last decision is known ahead of it. What is known behind fewer decisions stays as it is, with whatever is dropped (see isIdle): so the search goes through the worlds in one order, and never comes to the same decisions again.
func (s *search) seek(vars int) bool {
	decided := s.assumed
	for {
		known, clash := s.stands.Push(decided)
		if clash && decided == s.assumed {
			s.end()
			return false
		}
		if clash {
			if !s.refute(decided) {
				return false
			}
			// No decision is kept: over what stands there now it may be none any more (see learn).
			decided = s.assumed
			s.path = nil
			continue
		}
		s.path = append(s.path, step{decided: decided, vars: vars, known: known.Within(vars)})
		v := literal.FirstVar(vars &^ known.Vars())
		if v == 0 {
			s.values = s.values.Join(known.Within(vars))
			s.done = append(s.done, s.path...)
			s.path = nil
			return true
		}
		decided = decided.With(v)
	}
}

// end ends the search because pushing from the assumptions alone comes to a clash.
func (s *search) end() {
	core := s.needed(s.assumed)
	if s.write(texts.Ends, core.Opposites()) {
		s.answer = api.Answer{Status: api.Unsat, Core: inOrder(core, s.assume)}
	}
}

// refute learns that decisions and assumptions by which pushing comes to a clash can't all be right; false, if there is no room for that.
func (s *search) refute(decided literal.Set) bool {
	if s.room.Budget > 0 && s.spent >= s.room.Budget {
		s.answer = unknown(api.ByBudget, literal.Set{})
		return false
	}
	if !s.makeRoom(decided) {
		return false
	}
	// What is needed is asked behind the drop: the clause must follow over what stands there then.
	needed := s.needed(decided)
	return s.learn(needed.Opposites())
}

// needed leaves out the assumptions without which pushing comes to a clash too, so that what is learnt holds for more Solves, and a core has less. All that is left is of one component (P12): pushing goes from none to another, so that a clash needs no assumption of another.
func (s *search) needed(decided literal.Set) literal.Set {
	for _, n := range s.assume {
		less := decided.Without(n)
		_, clash := s.stands.Push(less)
		if clash {
			decided = less
		}
	}
	return decided
}

// inOrder has the literals of a set in their order in a list, each where it stands there first.
func inOrder(set literal.Set, list []int) []int {
	var l []int
	for _, n := range list {
		if set.Has(n) {
			l = append(l, n)
			set = set.Without(n)
		}
	}
	return l
}

// learn adds a clause; false, if there is no room for it.
//
// The clause is none of those that stand there: since the first decision nothing was added to them, so that pushing from the assumptions and all decisions but the last would have come to a clash, or made the opposite of the last one known, and it would not have been decided.
func (s *search) learn(clause literal.Set) bool {
	if clause.Size() > s.room.Held {
		s.answer = unknown(api.ByHeld, clause)
		return false
	}
	if !s.write(texts.Adds, clause) {
		return false
	}
	s.room.Held -= clause.Size()
	s.spent++
	s.learnt = append(s.learnt, clause)
	s.stands.Add(clause, 1)
	return true
}

// write writes a line; false, if there is no room for it.
func (s *search) write(letter byte, clause literal.Set) bool {
	line := texts.Line{Letter: letter, Literals: clause.List()}
	if line.Size() > s.room.Log {
		s.answer = unknown(api.ByLog, clause)
		return false
	}
	s.room.Log -= line.Size()
	s.lines = append(s.lines, line)
	return true
}

func unknown(reason int, clause literal.Set) api.Answer {
	return api.Answer{Status: api.Unknown, Reason: reason, Clause: clause.List()}
}
