package texts

import (
	"fmt"
	"math"
	"regexp"
	"strings"
	"testing"
)

func TestReadLine(t *testing.T) {
	for _, c := range []struct {
		proof string
		at    int
		want  string
		next  int
	}{
		{"a 0\n", 0, "a []", 4},
		{"d 1 -2 0\n", 0, "d [1 -2]", 9},
		{"e 10 -10 9 -9 0\n", 0, "e [10 -10 9 -9]", 16},
		{"e 3 3 -3 3 0\n", 0, "e [3 3 -3 3]", 13},
		{"a 0\nd 1 0\ne 0\n", 4, "d [1]", 10},
		{"a 0\nd 1 0\ne 0\n", 10, "e []", 14},
		// What stands behind a line does not matter to it.
		{"a 1 0\nxx", 0, "a [1]", 6},
		{"a 1 0\n\n", 0, "a [1]", 6},
		{"a 1 0\n 0\n", 0, "a [1]", 6},
		{"a " + strings.Repeat("-7 ", 100000) + "0\n", 0, "a " + fmt.Sprint(repeat(-7, 100000)), 300004},
	} {
		line, next, right := ReadLine(c.proof, c.at)
		got := fmt.Sprintf("%c %v", line.Letter, line.Literals)
		if !right || got != c.want || next != c.next {
			t.Errorf("P8: ReadLine(%.40q, %d) = %.40s, %d, %v, want %.40s, %d", c.proof, c.at, got, next, right, c.want, c.next)
		}
	}
}

func TestReadLineThatIsNone(t *testing.T) {
	for _, proof := range []string{
		"", "e", "e ", "e 0", "e 1", "e 1 ", "e 1 0", "e 1 0 ", "e\n", "e \n", "\n", " ", "0\n", "1 0\n",
		"e 0\r\n", "e 0 \n", "e 0 0\n", "e 1 0 0\n", "e 0 1 0\n", "e 1 0\r\n", "e 1\n0\n", "e 1\n", "e\n0\n",
		"e  0\n", "e  1 0\n", "e 1  0\n", "e 1  2 0\n", " e 0\n", "\te 0\n", "e\t0\n", "e 1\t0\n",
		"e0\n", "e1 0\n", "f 0\n", "c 0\n", "b 1 0\n", "E 0\n", "A 0\n", "D 1 0\n", "ee 0\n", "ae 0\n", "\x00 0\n",
		"e 00\n", "e -0\n", "e +0\n", "e 1 00\n", "e 1 -0\n", "e -0 0\n",
		"e 01 0\n", "e -01 0\n", "e +1 0\n", "e - 0\n", "e --1 0\n", "e 1- 0\n", "e x 0\n", "e 1x 0\n", "e 1.0 0\n", "e 1, 0\n",
		"e 11 0\n", "e -11 0\n", "e 100 0\n", "e 18446744073709551617 0\n", "e -18446744073709551615 0\n", "e 4294967297 0\n",
		"e \u0661 0\n", "e 1\u00a00\n", "\u00e9 0\n", "e \xff 0\n",
		"e " + strings.Repeat("1", 1000000) + " 0\n", "e " + strings.Repeat("1 ", 1000000), "e " + strings.Repeat("x", 1000000),
	} {
		line, next, right := ReadLine(proof, 0)
		if right || next != 0 || line.Letter != 0 || line.Literals != nil {
			t.Errorf("P8: ReadLine(%.40q, 0) = %v, %d, %v", proof, line, next, right)
		}
	}
	for _, at := range []int{-1, 1, 2, 3, 4, 5, 6, math.MinInt, math.MaxInt} {
		for _, proof := range []string{"e 0\n", " 0\n"} {
			if line, _, right := ReadLine(proof, at); right {
				t.Errorf("P1: ReadLine(%q, %d) = %v", proof, at, line)
			}
		}
	}
}

// Every text of up to six of these bytes behind a letter, and every one of up to four at all.
func TestReadLineAllShortTexts(t *testing.T) {
	const bytes = "ade01- \n"
	isLine := regexp.MustCompile(`^[ade] ((-?([1-9]|10) )*)0\n`)
	try := func(s string) {
		want := isLine.FindString(s)
		line, next, right := ReadLine(s, 0)
		written := ""
		if right {
			clause, _ := Write([][]int{line.Literals})
			written = string(line.Letter) + " " + clause
		}
		if written != want || right != (want != "") || next != len(want) {
			t.Fatalf("P8: ReadLine(%q, 0) = %q, %d, %v, want %q", s, written, next, right, want)
		}
	}
	var longer func(s string, more int)
	longer = func(s string, more int) {
		try(s)
		if more == 0 {
			return
		}
		for i := range len(bytes) {
			longer(s+bytes[i:i+1], more-1)
		}
	}
	longer("", 4)
	longer("e ", 6)
}

func TestAppendLine(t *testing.T) {
	for _, c := range []struct {
		line Line
		want string
		size int
	}{
		{Line{Adds, nil}, "a 0\n", 1},
		{Line{Ends, []int{}}, "e 0\n", 1},
		{Line{Drops, []int{-7}}, "d -7 0\n", 2},
		{Line{Adds, []int{10, -10, 3, 3}}, "a 10 -10 3 3 0\n", 5},
		{Line{Ends, []int{1, -2, 3, -4, 5, -6, 7, -8, 9, -10}}, "e 1 -2 3 -4 5 -6 7 -8 9 -10 0\n", 11},
		// A proof may be longer than a text of clauses.
		{Line{Ends, repeat(-7, 1000)}, "e " + strings.Repeat("-7 ", 1000) + "0\n", 1001},
	} {
		if got := c.line.Size(); got != c.size {
			t.Errorf("P7: the size of %v is %d, want %d", c.line, got, c.size)
		}
		if got := string(AppendLine(nil, c.line)); got != c.want {
			t.Errorf("P12: AppendLine(nil, %v) = %.40q, want %.40q", c.line, got, c.want)
		}
		ahead := strings.Repeat("a 1 0\n", 1000)
		got := string(AppendLine([]byte(ahead), c.line))
		if got != ahead+c.want {
			t.Errorf("P12: AppendLine(..., %v) ends in %.40q, want %.40q", c.line, got[min(len(got), len(ahead)):], c.want)
		}
		line, next, right := ReadLine(got, len(ahead))
		if !right || next != len(got) || fmt.Sprint(line.Literals) != fmt.Sprint(c.line.Literals) || line.Letter != c.line.Letter {
			t.Errorf("P12: of %v is read %v, %d, %v", c.line, line, next, right)
		}
	}
}
