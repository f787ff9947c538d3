package texts

import "trail/api"

// The letters that a line of a proof begins with.
const (
	Adds  = 'a'
	Drops = 'd'
	Ends  = 'e'
)

// Line is a line of a proof, its literals as they stand there.
type Line struct {
	Letter   byte
	Literals []int
}

// Size is what a line adds to the size of its proof.
func (l Line) Size() int {
	return len(l.Literals) + 1
}

// AppendLine writes a line behind what stands in a proof.
func AppendLine(proof []byte, line Line) []byte {
	proof = append(proof, line.Letter, ' ')
	for _, n := range line.Literals {
		proof = appendLiteral(proof, n)
	}
	return appendEnd(proof)
}

// ReadLine reads the line that begins at a place, and tells the place behind it; false, if none begins there.
func ReadLine(proof string, at int) (Line, int, bool) {
	if !lineBegins(proof, at) {
		return Line{}, 0, false
	}
	line := Line{Letter: proof[at]}
	at += 2
	end := wordEnd(proof, at)
	for end < len(proof) {
		n, err := number(proof[at:end])
		if err != api.OK {
			return Line{}, 0, false
		}
		if n == 0 && proof[end] == '\n' {
			return line, end + 1, true
		}
		if n == 0 || proof[end] != ' ' {
			return Line{}, 0, false
		}
		line.Literals = append(line.Literals, n)
		at = end + 1
		end = wordEnd(proof, at)
	}
	return Line{}, 0, false
}

// lineBegins tells whether a letter and a blank stand at a place.
func lineBegins(proof string, at int) bool {
	if at < 0 || len(proof)-at < 2 || proof[at+1] != ' ' {
		return false
	}
	return proof[at] == Adds || proof[at] == Drops || proof[at] == Ends
}
