// Package proofs reads proofs, step by step.
package proofs

import (
	"trail/api"
	"trail/literal"
	"trail/pushing"
	"trail/texts"
)

// Check goes through a proof's lines over what stands there, which they change (P8).
func Check(stands *pushing.Clauses, proof string) ([]int, api.Errno, int) {
	var last texts.Line
	lines := 0
	at := 0
	for at < len(proof) {
		line, next, right := texts.ReadLine(proof, at)
		if !right {
			return nil, api.ErrText, lines
		}
		err := step(stands, line)
		if err != api.OK {
			return nil, err, lines
		}
		last = line
		lines++
		at = next
	}
	if last.Letter != texts.Ends {
		return nil, api.ErrOpen, lines
	}
	return last.Literals, api.OK, lines
}

// step does what a line says; it changes nothing if the line is refused.
func step(stands *pushing.Clauses, line texts.Line) api.Errno {
	// All numbers of a line that was read are literals.
	set, _ := literal.Of(line.Literals)
	if line.Letter == texts.Drops {
		if !stands.Drop(set) {
			return api.ErrGone
		}
		return api.OK
	}
	if !stands.Follows(set) {
		return api.ErrStep
	}
	if line.Letter == texts.Adds {
		stands.Add(set, 1)
	}
	return api.OK
}
