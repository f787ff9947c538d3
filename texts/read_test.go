package texts

import (
	"reflect"
	"regexp"
	"strings"
	"testing"

	"trail/api"
)

func TestRead(t *testing.T) {
	for _, c := range []struct {
		text string
		want [][]int
		err  api.Errno
		at   int
	}{
		{"", nil, api.OK, 0},
		{"0", [][]int{nil}, api.OK, 0},
		{"c hi\n1 -2 0 3\n0", [][]int{{1, -2}, {3}}, api.OK, 0},
		{"1 -1 1 0", [][]int{{1, -1, 1}}, api.OK, 0},
		{"10 -10 9 -9 0 0", [][]int{{10, -10, 9, -9}, nil}, api.OK, 0},
		{" \n 4 \n\n 5 0 \n", [][]int{{4, 5}}, api.OK, 0},
		// Comments.
		{"c", nil, api.OK, 0},
		{"c1 x\nc\n\nc 7", nil, api.OK, 0},
		{"1\nc 0 11 x\n-1 0", [][]int{{1, -1}}, api.OK, 0},
		{"1 0\nc", [][]int{{1}}, api.OK, 0},
		{"1\nc 0", nil, api.ErrText, 5},
		{" c", nil, api.ErrText, 1},
		{"1 c 0", nil, api.ErrText, 2},
		{"1c 0", nil, api.ErrText, 0},
		{"\n c\n", nil, api.ErrText, 2},
		{"C hi", nil, api.ErrText, 0},
		// Words that are no number.
		{"1 01 0", nil, api.ErrText, 2},
		{"1 -01 0", nil, api.ErrText, 2},
		{"00", nil, api.ErrText, 0},
		{"011", nil, api.ErrText, 0},
		{"-0", nil, api.ErrText, 0},
		{"0 -", nil, api.ErrText, 2},
		{"--1 0", nil, api.ErrText, 0},
		{"1-", nil, api.ErrText, 0},
		{"+1 0", nil, api.ErrText, 0},
		{"1\t2 0", nil, api.ErrText, 0},
		{"1 2\r\n0", nil, api.ErrText, 2},
		{"1 \x00 0", nil, api.ErrText, 2},
		{"1 \u00a00", nil, api.ErrText, 2},
		{"1 \u0661 0", nil, api.ErrText, 2},
		{"1 \xff", nil, api.ErrText, 2},
		{"1:", nil, api.ErrText, 0},
		{"1/", nil, api.ErrText, 0},
		{"9999999999999999999999x", nil, api.ErrText, 0},
		// Numbers that are no literal.
		{"1 11 0", nil, api.ErrLit, 2},
		{"1 -11 0", nil, api.ErrLit, 2},
		{"100", nil, api.ErrLit, 0},
		{"18446744073709551617 0", nil, api.ErrLit, 0},
		{"-18446744073709551617 0", nil, api.ErrLit, 0},
		{"4294967297 0", nil, api.ErrLit, 0},
		{strings.Repeat("9", 1000), nil, api.ErrLit, 0},
		// The first wrong word counts, and a wrong word ahead of a clause without an end.
		{"11 x", nil, api.ErrLit, 0},
		{"x 11", nil, api.ErrText, 0},
		{"1 2 11", nil, api.ErrLit, 4},
		// A clause without an end.
		{"1 2", nil, api.ErrText, 3},
		{"1 0 2 \n ", nil, api.ErrText, 8},
		// The length.
		{strings.Repeat("1 0\n", 250), ones(250), api.OK, 0},
		{strings.Repeat("1 0\n", 250) + " ", nil, api.ErrLong, 0},
		{"x" + strings.Repeat(" ", 999), nil, api.ErrText, 0},
		{"x" + strings.Repeat(" ", 1000), nil, api.ErrLong, 0},
		{strings.Repeat(" ", 999) + "1", nil, api.ErrText, 1000},
		{"c" + strings.Repeat("x", 1000), nil, api.ErrLong, 0},
		{strings.Repeat("0 ", 10000000), nil, api.ErrLong, 0},
	} {
		got, err, at := Read(c.text)
		if !same(got, c.want) || err != c.err || at != c.at {
			t.Errorf("P3: Read(%.40q) = %v, %d, %d, want %v, %d, %d", c.text, got, err, at, c.want, c.err, c.at)
		}
		if err != api.OK && got != nil {
			t.Errorf("P1: Read(%.40q) tells an error and %v", c.text, got)
		}
	}
}

func ones(n int) [][]int {
	var l [][]int
	for range n {
		l = append(l, []int{1})
	}
	return l
}

// same takes nil for an empty list, as P2 does.
func same(a, b [][]int) bool {
	if len(a) != len(b) {
		return false
	}
	for i := range a {
		if len(a[i])+len(b[i]) > 0 && !reflect.DeepEqual(a[i], b[i]) {
			return false
		}
	}
	return true
}

var (
	comment  = regexp.MustCompile(`(?m)^c[^\n]*`)
	word     = regexp.MustCompile(`[^ \n]+`)
	isNumber = regexp.MustCompile(`^-?[1-9][0-9]*$`)
	isRight  = regexp.MustCompile(`^-?([1-9]|10)$`)
)

// plain reads by patterns: another way to the same answer.
func plain(text string) ([]string, api.Errno, int) {
	text = comment.ReplaceAllStringFunc(text, func(s string) string { return strings.Repeat(" ", len(s)) })
	var clauses []string
	open := ""
	for _, at := range word.FindAllStringIndex(text, -1) {
		w := text[at[0]:at[1]]
		switch {
		case w == "0":
			clauses = append(clauses, open)
			open = ""
		case isRight.MatchString(w):
			open += w + " "
		case isNumber.MatchString(w):
			return nil, api.ErrLit, at[0]
		default:
			return nil, api.ErrText, at[0]
		}
	}
	if open != "" {
		return nil, api.ErrText, len(text)
	}
	return clauses, api.OK, 0
}

// Every text of up to seven of these bytes.
func TestReadAllShortTexts(t *testing.T) {
	const bytes = "01-c \n"
	text := make([]byte, 0, 7)
	var try func()
	try = func() {
		s := string(text)
		want, wantErr, wantAt := plain(s)
		clauses, err, at := Read(s)
		got, _ := Write(clauses)
		written := ""
		for _, c := range want {
			written += c + "0\n"
		}
		if got != written || err != wantErr || at != wantAt {
			t.Fatalf("P3: Read(%q) = %q, %d, %d, want %q, %d, %d", s, got, err, at, written, wantErr, wantAt)
		}
		if len(text) == cap(text) {
			return
		}
		for _, b := range []byte(bytes) {
			text = append(text, b)
			try()
			text = text[:len(text)-1]
		}
	}
	try()
}

// fill writes into a list and its spare room.
func fill(l []int) {
	l = l[:cap(l)]
	for i := range l {
		l[i] = 77
	}
}

func TestReadAnswersFreshLists(t *testing.T) {
	// Clauses of five and three leave spare room in which the next might come to lie.
	const text = "1 2 3 0 4 0 5 0 0 6 7 8 9 10 0 -1 0 -2 -3 0 -4 0"
	want := [][]int{{1, 2, 3}, {4}, {5}, nil, {6, 7, 8, 9, 10}, {-1}, {-2, -3}, {-4}}
	for i := range want {
		got, _, _ := Read(text)
		fill(got[i])
		for j := range want {
			if j != i && !same(got[j:j+1], want[j:j+1]) {
				t.Errorf("P2: clause %d is %v after clause %d was written into", j, got[j], i)
			}
		}
		clear(got[:cap(got)])
		again, _, _ := Read(text)
		if !same(again, want) {
			t.Errorf("P2: Read again = %v", again)
		}
	}
}
