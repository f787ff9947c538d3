package trail

import (
	"trail/api"
	"trail/components"
	"trail/literal"
	"trail/search"
	"trail/texts"
)

// Solve seeks values (P9 to P15).
func (x *Solver) Solve(assume []int, budget int) (api.Answer, api.Errno) {
	err := refusal(assume, budget)
	if err != api.OK {
		return api.Answer{}, err
	}
	x.see(assume)
	stands := x.standing()
	parts := components.Of(x.taken, x.seen)
	room := x.room(budget)
	answer, lines := search.Run(stands, x.learnt, parts, assume, room)
	for _, line := range lines {
		x.keep(line)
	}
	return answer, api.OK
}

// refusal is the first error of a Solve, or OK (P9).
func refusal(assume []int, budget int) api.Errno {
	if len(assume) > api.MaxAssume {
		return api.ErrLong
	}
	_, right := literal.Of(assume)
	if !right {
		return api.ErrLit
	}
	if budget < 0 {
		return api.ErrBudget
	}
	return api.OK
}

// see makes the variables of assumptions seen, whatever the answer will be (P7).
func (x *Solver) see(assume []int) {
	assumed, _ := literal.Of(assume)
	x.seen |= assumed.Vars()
}

// room is how much the settings leave for a search.
func (x *Solver) room(budget int) search.Room {
	return search.Room{
		Budget: budget,
		Reduce: x.settings.Reduce,
		Held:   x.settings.Held - literal.Total(x.learnt),
		Log:    x.settings.Log - x.size,
	}
}

// keep writes a line into the proof, and keeps what it says.
func (x *Solver) keep(line texts.Line) {
	x.proof = texts.AppendLine(x.proof, line)
	x.size += line.Size()
	// All numbers of a line are literals.
	set, _ := literal.Of(line.Literals)
	switch line.Letter {
	case texts.Adds:
		x.learnt = append(x.learnt, set)
	case texts.Drops:
		x.learnt = literal.LeaveOut(x.learnt, set)
	case texts.Ends:
		x.unsat++
	}
}
