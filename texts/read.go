// Package texts reads and writes clauses as texts, and reads the lines of proofs.
package texts

import "trail/api"

// Read reads a text of clauses (P3).
func Read(text string) ([][]int, api.Errno, int) {
	if len(text) > api.MaxText {
		return nil, api.ErrLong, 0
	}
	var clauses [][]int
	var open []int
	at := nextWord(text, 0)
	for at < len(text) {
		end := wordEnd(text, at)
		n, err := number(text[at:end])
		if err != api.OK {
			return nil, err, at
		}
		if n == 0 {
			clauses = append(clauses, open)
			// A new list, not the old one cut short: no two clauses may share memory.
			open = nil
		} else {
			open = append(open, n)
		}
		at = nextWord(text, end)
	}
	if len(open) > 0 {
		return nil, api.ErrText, len(text)
	}
	return clauses, api.OK, 0
}

// nextWord is the place where the next word begins, from a place that is not within a word; the text's length, if there is none.
func nextWord(text string, at int) int {
	for at < len(text) {
		if beginsComment(text, at) {
			at = lineEnd(text, at)
		} else if isGap(text[at]) {
			at++
		} else {
			return at
		}
	}
	return at
}

func beginsComment(text string, at int) bool {
	return text[at] == 'c' && (at == 0 || text[at-1] == '\n')
}

func lineEnd(text string, at int) int {
	for at < len(text) && text[at] != '\n' {
		at++
	}
	return at
}

func wordEnd(text string, at int) int {
	for at < len(text) && !isGap(text[at]) {
		at++
	}
	return at
}

func isGap(b byte) bool {
	return b == ' ' || b == '\n'
}

// number is the literal that a word is, or 0 for the word that ends a clause.
func number(word string) (int, api.Errno) {
	if word == "0" {
		return 0, api.OK
	}
	digits := word
	negative := len(word) > 0 && word[0] == '-'
	if negative {
		digits = word[1:]
	}
	if !isCount(digits) {
		return 0, api.ErrText
	}
	n := value(digits)
	if n > api.MaxVar {
		return 0, api.ErrLit
	}
	if negative {
		n = -n
	}
	return n, api.OK
}

// isCount tells whether there are digits alone, at least one, and no nought ahead.
func isCount(digits string) bool {
	if len(digits) == 0 || digits[0] == '0' {
		return false
	}
	for i := 0; i < len(digits); i++ {
		if digits[i] < '0' || digits[i] > '9' {
			return false
		}
	}
	return true
}

// value is exact up to MaxVar. Beyond, it is only sure to be greater: it stops there, because the digits may be more than an int holds.
func value(digits string) int {
	n := 0
	for i := 0; i < len(digits) && n <= api.MaxVar; i++ {
		n = n*10 + int(digits[i]-'0')
	}
	return n
}
