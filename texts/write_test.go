package texts

import (
	"math"
	"strings"
	"testing"

	"trail/api"
)

func TestWrite(t *testing.T) {
	for _, c := range []struct {
		clauses [][]int
		want    string
		err     api.Errno
	}{
		{nil, "", api.OK},
		{[][]int{}, "", api.OK},
		{[][]int{nil}, "0\n", api.OK},
		{[][]int{{3, 3, -10}, {}}, "3 3 -10 0\n0\n", api.OK},
		{[][]int{{1, -1}, {10, 9}, {-9}}, "1 -1 0\n10 9 0\n-9 0\n", api.OK},
		{[][]int{{0}}, "", api.ErrLit},
		{[][]int{{1}, {11}}, "", api.ErrLit},
		{[][]int{{1, 2, -11}, {1}}, "", api.ErrLit},
		{[][]int{{math.MinInt}}, "", api.ErrLit},
		{[][]int{{math.MaxInt}}, "", api.ErrLit},
		{[][]int{{1 << 32}}, "", api.ErrLit},
		// The length.
		{make([][]int, 500), strings.Repeat("0\n", 500), api.OK},
		{make([][]int, 501), "", api.ErrLong},
		{ones(250), strings.Repeat("1 0\n", 250), api.OK},
		{append(ones(249), []int{10}), "", api.ErrLong},
		{[][]int{repeat(1, 499)}, strings.Repeat("1 ", 499) + "0\n", api.OK},
		{[][]int{repeat(1, 500)}, "", api.ErrLong},
		{[][]int{repeat(-10, 249), nil}, strings.Repeat("-10 ", 249) + "0\n0\n", api.OK},
		{[][]int{repeat(-10, 249), nil, nil}, "", api.ErrLong},
		{[][]int{repeat(1, 5000000)}, "", api.ErrLong},
		{make([][]int, 5000000), "", api.ErrLong},
		// A number that is no literal comes ahead of the length.
		{[][]int{append(repeat(1, 5000), 11)}, "", api.ErrLit},
		{append(make([][]int, 5000), []int{0}), "", api.ErrLit},
	} {
		got, err := Write(c.clauses)
		if got != c.want || err != c.err {
			t.Errorf("P4: Write of %d clauses = %.40q, %d, want %.40q, %d", len(c.clauses), got, err, c.want, c.err)
		}
	}
}

func repeat(n, times int) []int {
	var l []int
	for range times {
		l = append(l, n)
	}
	return l
}

func TestWriteThenRead(t *testing.T) {
	for _, clauses := range [][][]int{nil, {nil}, {{1, 1, -1}, nil, {10}, {-10, 5, -10}}, ones(250), {repeat(-7, 300)}} {
		text, err := Write(clauses)
		got, readErr, at := Read(text)
		if err != api.OK || readErr != api.OK || at != 0 || !same(got, clauses) {
			t.Errorf("P3, P4: %v was written as %q (%d) and read as %v (%d, %d)", clauses, text, err, got, readErr, at)
		}
	}
}

func TestWriteLeavesWhatIsHandedIn(t *testing.T) {
	behind := []int{4, -5, 6, 7}
	lists := [][]int{behind[:2], nil, {9}}
	Write(lists[:2])
	if !same([][]int{behind}, [][]int{{4, -5, 6, 7}}) || !same(lists, [][]int{{4, -5}, nil, {9}}) {
		t.Errorf("P2: what was handed in reads %v, %v", behind, lists)
	}
	a, _ := Write(lists)
	behind[0] = 1
	b, _ := Write(lists)
	if a != "4 -5 0\n0\n9 0\n" || b != "1 -5 0\n0\n9 0\n" {
		t.Errorf("P2: Write = %q, then %q", a, b)
	}
}
