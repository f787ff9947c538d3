package literal

import (
	"math"
	"testing"
)

func TestIs(t *testing.T) {
	for n := -30; n <= 30; n++ {
		want := n != 0 && n >= -10 && n <= 10
		if Is(n) != want {
			t.Errorf("Is(%d) = %v", n, !want)
		}
	}
	for _, n := range []int{math.MinInt, math.MinInt + 1, math.MaxInt, 1 << 32, 1<<32 + 1, -1<<32 - 1} {
		if Is(n) {
			t.Errorf("Is(%d)", n)
		}
	}
}

func TestOf(t *testing.T) {
	for _, c := range []struct {
		literals  []int
		right     bool
		size      int
		vars      int
		tautology bool
	}{
		{nil, true, 0, 0, false},
		{[]int{1}, true, 1, 1, false},
		{[]int{-10}, true, 1, 1, false},
		{[]int{1, 1, -2, 1, -2}, true, 2, 2, false},
		{[]int{1, 2, -1}, true, 3, 2, true},
		{[]int{-10, 3, 10}, true, 3, 2, true},
		{[]int{1, -2, 3, -4, 5, -6, 7, -8, 9, -10}, true, 10, 10, false},
		{[]int{0}, false, 0, 0, false},
		{[]int{1, 2, 11}, false, 0, 0, false},
		{[]int{math.MinInt, 1}, false, 0, 0, false},
	} {
		s, right := Of(c.literals)
		if right != c.right || s.Size() != c.size || CountVars(s.Vars()) != c.vars || s.IsTautology() != c.tautology {
			t.Errorf("Of(%v) = %+v, %v: size %d, variables %d, tautology %v", c.literals, s, right, s.Size(), CountVars(s.Vars()), s.IsTautology())
		}
	}
}

func TestOrderDoesNotMatter(t *testing.T) {
	a, _ := Of([]int{4, -7, 4, 9})
	b, _ := Of([]int{9, -7, -7, 4})
	c, _ := Of([]int{9, 7, 4})
	if a != b || a == c {
		t.Errorf("sets: %+v, %+v, %+v", a, b, c)
	}
}

func TestTotal(t *testing.T) {
	a, _ := Of([]int{1, 2, 2})
	b, _ := Of([]int{-1})
	if n := Total([]Set{a, b, {}, a}); n != 5 {
		t.Errorf("Total = %d, want 5", n)
	}
	if n := Total(nil); n != 0 {
		t.Errorf("Total of none = %d", n)
	}
}
