package texts

import (
	"strconv"

	"trail/api"
	"trail/literal"
)

// Write writes clauses as a text (P4).
func Write(clauses [][]int) (string, api.Errno) {
	if !allLiterals(clauses) {
		return "", api.ErrLit
	}
	var text []byte
	for _, c := range clauses {
		text = appendClause(text, c)
		if len(text) > api.MaxText {
			return "", api.ErrLong
		}
	}
	return string(text), api.OK
}

func allLiterals(clauses [][]int) bool {
	for _, c := range clauses {
		for _, n := range c {
			if !literal.Is(n) {
				return false
			}
		}
	}
	return true
}

// appendClause stops early once the text is too long: a clause may have any length, and the text is not handed out then.
func appendClause(text []byte, literals []int) []byte {
	for _, n := range literals {
		if len(text) > api.MaxText {
			return text
		}
		text = appendLiteral(text, n)
	}
	return appendEnd(text)
}

func appendLiteral(text []byte, n int) []byte {
	text = append(text, strconv.Itoa(n)...)
	return append(text, ' ')
}

func appendEnd(text []byte) []byte {
	return append(text, '0', '\n')
}
