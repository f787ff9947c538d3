package proofs

import (
	"fmt"
	"testing"

	"trail/api"
	"trail/literal"
	"trail/pushing"
)

func check(clauses [][]int, proof string) string {
	stands := pushing.New()
	for _, c := range clauses {
		s, _ := literal.Of(c)
		stands.Add(s, 1)
	}
	l, err, n := Check(stands, proof)
	return fmt.Sprint(l, " ", err, " ", n)
}

func TestCheck(t *testing.T) {
	all := [][]int{{1, 2}, {1, -2}, {-1, 2}, {-1, -2}}
	for _, c := range []struct {
		clauses [][]int
		proof   string
		want    []int
		err     api.Errno
		n       int
	}{
		// The end.
		{all, "", nil, api.ErrOpen, 0},
		{all, "a 1 0\n", nil, api.ErrOpen, 1},
		{all, "d 1 2 0\n", nil, api.ErrOpen, 1},
		{all, "e 1 0\na 1 0\n", nil, api.ErrOpen, 2},
		{all, "e 1 0\nd 1 2 0\n", nil, api.ErrOpen, 2},
		{all, "e 1 0\n", []int{1}, api.OK, 1},
		{all, "a 1 0\ne 0\n", nil, api.OK, 2},
		{all, "e 1 0\ne -2 5 0\n", []int{-2, 5}, api.OK, 2},
		{all, "e 5 1 5 -2 1 0\n", []int{5, 1, 5, -2, 1}, api.OK, 1},
		{nil, "e 1 -1 0\n", []int{1, -1}, api.OK, 1},
		// Lines that are none.
		{all, "x", nil, api.ErrText, 0},
		{all, "\n", nil, api.ErrText, 0},
		{all, "e 1 0\n\n", nil, api.ErrText, 1},
		{all, "e 1 0\n\ne 1 0\n", nil, api.ErrText, 1},
		{all, "a 1 0\ne 0", nil, api.ErrText, 1},
		{all, "a 1 0\na 1  0\ne 0\n", nil, api.ErrText, 1},
		{all, "e 1 0\ne 1 0\n ", nil, api.ErrText, 2},
		{all, "a 1 0\ne 11 0\n", nil, api.ErrText, 1},
		{all, "c hi\ne 1 0\n", nil, api.ErrText, 0},
		// A line comes ahead of what is wrong behind it.
		{all, "e 0\nx", nil, api.ErrStep, 0},
		{all, "d 3 0\ne 0\n", nil, api.ErrGone, 0},
		{all, "a 1 0\nd 3 0\nx\ne 3 0\n", nil, api.ErrGone, 1},
		{all, "x\ne 0\n", nil, api.ErrText, 0},
		// Lines whose clause does not follow.
		{all, "e 0\n", nil, api.ErrStep, 0},
		{all, "a 0\n", nil, api.ErrStep, 0},
		{all, "a 3 0\n", nil, api.ErrStep, 0},
		{nil, "e 1 0\n", nil, api.ErrStep, 0},
		// `e` leaves what stands there as it is.
		{all, "e 1 0\ne 0\n", nil, api.ErrStep, 1},
		{all, "e 1 0\nd 1 0\n", nil, api.ErrGone, 1},
		// `a` adds, `d` drops.
		{all, "a 1 0\nd 1 0\ne 0\n", nil, api.ErrStep, 2},
		{all, "a 1 0\nd 1 0\nd 1 0\n", nil, api.ErrGone, 2},
		{all, "a 1 0\na 1 0\nd 1 0\ne 0\n", nil, api.OK, 4},
		{all, "a 1 0\nd 2 1 0\nd -2 1 0\ne 0\n", nil, api.OK, 4},
		{all, "d 1 2 0\ne 1 0\n", nil, api.ErrStep, 1},
		{all, "d 1 2 0\na 1 2 0\n", nil, api.ErrStep, 1},
		{all, "d 1 2 0\nd 2 1 0\n", nil, api.ErrGone, 1},
		{all, "a 1 0\na 0\nd 1 2 0\nd 1 0\nd 1 -2 0\nd -1 2 0\nd -1 -2 0\ne 9 0\n", []int{9}, api.OK, 8},
		// Just these literals: no more, no fewer.
		{all, "d 1 0\n", nil, api.ErrGone, 0},
		{all, "d 1 2 3 0\n", nil, api.ErrGone, 0},
		{all, "d 1 3 0\n", nil, api.ErrGone, 0},
		{all, "d 1 2 -1 0\n", nil, api.ErrGone, 0},
		{all, "d 0\n", nil, api.ErrGone, 0},
		{all, "d 2 1 1 2 0\ne -1 0\n", []int{-1}, api.OK, 2},
		// Several clauses alike.
		{[][]int{{3}, {3}, {-3}}, "d 3 0\ne 0\n", nil, api.OK, 2},
		{[][]int{{3}, {3}, {-3}}, "d 3 0\nd 3 3 0\ne 0\n", nil, api.ErrStep, 2},
		{[][]int{{3}, {3}, {-3}}, "d 3 0\nd 3 0\nd 3 0\n", nil, api.ErrGone, 2},
		// The empty clause.
		{[][]int{nil}, "e 0\n", nil, api.OK, 1},
		{[][]int{nil, nil}, "d 0\ne 5 0\n", []int{5}, api.OK, 2},
		{[][]int{nil}, "a 0\nd 0\nd 0\ne 0\n", nil, api.ErrStep, 3},
		// Tautologies follow of anything, stand there, and say nothing.
		{nil, "a 3 -3 0\nd -3 3 3 0\ne 4 -4 4 0\n", []int{4, -4, 4}, api.OK, 3},
		{nil, "a 3 -3 0\nd 3 -3 0\nd 3 -3 0\n", nil, api.ErrGone, 2},
		{nil, "a 3 -3 0\na 3 -3 4 0\nd 3 -3 0\nd -3 4 3 0\nd 3 -3 0\n", nil, api.ErrGone, 4},
		{nil, "a 3 -3 0\ne 3 0\n", nil, api.ErrStep, 1},
		{nil, "a 3 -3 4 0\ne 3 4 0\n", nil, api.ErrStep, 1},
		{nil, "d 3 -3 0\n", nil, api.ErrGone, 0},
	} {
		want := fmt.Sprint(c.want, " ", c.err, " ", c.n)
		if got := check(c.clauses, c.proof); got != want {
			t.Errorf("P8: over %v %q is %s, want %s", c.clauses, c.proof, got, want)
		}
	}
}
