package literal

import (
	"math"
	"testing"
)

func TestIs(t *testing.T) {
	for n := -30; n <= 30; n++ {
		want := n != 0 && n >= -10 && n <= 10
		if Is(n) != want {
			t.Errorf("Is(%d) = %v", n, !want)
		}
	}
	for _, n := range []int{math.MinInt, math.MinInt + 1, math.MaxInt, 1 << 32, 1<<32 + 1, -1<<32 - 1} {
		if Is(n) {
			t.Errorf("Is(%d)", n)
		}
	}
}

func TestOf(t *testing.T) {
	for _, c := range []struct {
		literals  []int
		right     bool
		size      int
		vars      int
		tautology bool
	}{
		{nil, true, 0, 0, false},
		{[]int{1}, true, 1, 1, false},
		{[]int{-10}, true, 1, 1, false},
		{[]int{1, 1, -2, 1, -2}, true, 2, 2, false},
		{[]int{1, 2, -1}, true, 3, 2, true},
		{[]int{-10, 3, 10}, true, 3, 2, true},
		{[]int{1, -2, 3, -4, 5, -6, 7, -8, 9, -10}, true, 10, 10, false},
		{[]int{0}, false, 0, 0, false},
		{[]int{1, 2, 11}, false, 0, 0, false},
		{[]int{math.MinInt, 1}, false, 0, 0, false},
	} {
		s, right := Of(c.literals)
		if right != c.right || s.Size() != c.size || CountVars(s.Vars()) != c.vars || s.IsTautology() != c.tautology {
			t.Errorf("Of(%v) = %+v, %v: size %d, variables %d, tautology %v", c.literals, s, right, s.Size(), CountVars(s.Vars()), s.IsTautology())
		}
	}
}

func TestOrderDoesNotMatter(t *testing.T) {
	a, _ := Of([]int{4, -7, 4, 9})
	b, _ := Of([]int{9, -7, -7, 4})
	c, _ := Of([]int{9, 7, 4})
	if a != b || a == c {
		t.Errorf("sets: %+v, %+v, %+v", a, b, c)
	}
}

func TestTotal(t *testing.T) {
	a, _ := Of([]int{1, 2, 2})
	b, _ := Of([]int{-1})
	if n := Total([]Set{a, b, {}, a}); n != 5 {
		t.Errorf("Total = %d, want 5", n)
	}
	if n := Total(nil); n != 0 {
		t.Errorf("Total of none = %d", n)
	}
}

func TestHasWithOpposites(t *testing.T) {
	s, _ := Of([]int{1, -3, 10, -10})
	odd := []int{0, 11, -11, 64, -64, math.MinInt, math.MaxInt}
	for n := -10; n <= 10; n++ {
		want := n == 1 || n == -3 || n == 10 || n == -10
		if s.Has(n) != want || s.Opposites().Has(-n) != want {
			t.Errorf("Has(%d) = %v, its opposite is among the opposites: %v", n, s.Has(n), s.Opposites().Has(-n))
		}
		if !Is(n) {
			continue
		}
		more := s.With(n)
		all, _ := Of([]int{1, -3, 10, -10, n})
		if more != all {
			t.Errorf("With(%d) = %+v, want %+v", n, more, all)
		}
	}
	for _, n := range odd {
		if s.Has(n) || s.With(n) != s {
			t.Errorf("what is no literal: Has(%d) = %v, With(%d) = %+v", n, s.Has(n), n, s.With(n))
		}
	}
	if s.Opposites().Opposites() != s || s.Opposites() == s {
		t.Errorf("Opposites = %+v", s.Opposites())
	}
}
