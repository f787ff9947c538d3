package literal

import (
	"math"
	"slices"
	"testing"
)

func TestIs(t *testing.T) {
	for n := -30; n <= 30; n++ {
		want := n != 0 && n >= -10 && n <= 10
		if Is(n) != want {
			t.Errorf("Is(%d) = %v", n, !want)
		}
	}
	for _, n := range []int{math.MinInt, math.MinInt + 1, math.MaxInt, 1 << 32, 1<<32 + 1, -1<<32 - 1} {
		if Is(n) {
			t.Errorf("Is(%d)", n)
		}
	}
}

func TestOf(t *testing.T) {
	for _, c := range []struct {
		literals  []int
		right     bool
		size      int
		vars      int
		tautology bool
	}{
		{nil, true, 0, 0, false},
		{[]int{1}, true, 1, 1, false},
		{[]int{-10}, true, 1, 1, false},
		{[]int{1, 1, -2, 1, -2}, true, 2, 2, false},
		{[]int{1, 2, -1}, true, 3, 2, true},
		{[]int{-10, 3, 10}, true, 3, 2, true},
		{[]int{1, -2, 3, -4, 5, -6, 7, -8, 9, -10}, true, 10, 10, false},
		{[]int{0}, false, 0, 0, false},
		{[]int{1, 2, 11}, false, 0, 0, false},
		{[]int{math.MinInt, 1}, false, 0, 0, false},
	} {
		s, right := Of(c.literals)
		if right != c.right || s.Size() != c.size || CountVars(s.Vars()) != c.vars || s.IsTautology() != c.tautology {
			t.Errorf("Of(%v) = %+v, %v: size %d, variables %d, tautology %v", c.literals, s, right, s.Size(), CountVars(s.Vars()), s.IsTautology())
		}
	}
}

func TestOrderDoesNotMatter(t *testing.T) {
	a, _ := Of([]int{4, -7, 4, 9})
	b, _ := Of([]int{9, -7, -7, 4})
	c, _ := Of([]int{9, 7, 4})
	if a != b || a == c {
		t.Errorf("sets: %+v, %+v, %+v", a, b, c)
	}
}

func TestTotal(t *testing.T) {
	a, _ := Of([]int{1, 2, 2})
	b, _ := Of([]int{-1})
	if n := Total([]Set{a, b, {}, a}); n != 5 {
		t.Errorf("Total = %d, want 5", n)
	}
	if n := Total(nil); n != 0 {
		t.Errorf("Total of none = %d", n)
	}
}

func TestHasWithOpposites(t *testing.T) {
	s, _ := Of([]int{1, -3, 10, -10})
	odd := []int{0, 11, -11, 64, -64, math.MinInt, math.MaxInt}
	for n := -10; n <= 10; n++ {
		want := n == 1 || n == -3 || n == 10 || n == -10
		if s.Has(n) != want || s.Opposites().Has(-n) != want {
			t.Errorf("Has(%d) = %v, its opposite is among the opposites: %v", n, s.Has(n), s.Opposites().Has(-n))
		}
		if !Is(n) {
			continue
		}
		more := s.With(n)
		all, _ := Of([]int{1, -3, 10, -10, n})
		if more != all {
			t.Errorf("With(%d) = %+v, want %+v", n, more, all)
		}
		less := s.Without(n)
		if less.Has(n) || less.Has(-n) != s.Has(-n) || want && less.With(n) != s || !want && less != s {
			t.Errorf("Without(%d) = %+v", n, less)
		}
	}
	for _, n := range odd {
		if s.Has(n) || s.With(n) != s || s.Without(n) != s {
			t.Errorf("what is no literal: Has(%d) = %v, With(%d) = %+v, Without(%d) = %+v", n, s.Has(n), n, s.With(n), n, s.Without(n))
		}
	}
	if s.Opposites().Opposites() != s || s.Opposites() == s {
		t.Errorf("Opposites = %+v", s.Opposites())
	}
}

func TestJoinWithinList(t *testing.T) {
	a, _ := Of([]int{10, -3, 1, -10})
	b, _ := Of([]int{3, -3, 7})
	for _, c := range []struct {
		set  Set
		want []int
	}{
		{Set{}, nil},
		{a, []int{1, -3, 10, -10}},
		{a.Join(b), []int{1, 3, -3, 7, 10, -10}},
		{a.Join(Set{}), []int{1, -3, 10, -10}},
		{a.Within(b.Vars()), []int{-3}},
		{b.Within(a.Vars()), []int{3, -3}},
		{b.Within(0), nil},
		{a.Within(a.Vars()), []int{1, -3, 10, -10}},
	} {
		if got := c.set.List(); !slices.Equal(got, c.want) {
			t.Errorf("List of %+v = %v, want %v", c.set, got, c.want)
		}
	}
	one, two := a.List(), a.List()
	one = one[:cap(one)]
	for i := range one {
		one[i] = 77
	}
	if !slices.Equal(two, []int{1, -3, 10, -10}) {
		t.Errorf("P2: a list that came out reads %v later", two)
	}
}

func TestFirstVar(t *testing.T) {
	for _, c := range []struct {
		literals []int
		want     int
	}{
		{nil, 0},
		{[]int{1}, 1},
		{[]int{-10}, 10},
		{[]int{9, -4, 10, -9}, 4},
		{[]int{10, 9, 8, 7, 6, 5, 4, 3, 2, -1}, 1},
	} {
		s, _ := Of(c.literals)
		if got := FirstVar(s.Vars()); got != c.want {
			t.Errorf("FirstVar of %v = %d, want %d", c.literals, got, c.want)
		}
	}
	// Bits that stand for no variable are passed over.
	if got := FirstVar(1 | 1<<11); got != 0 {
		t.Errorf("FirstVar of no variable = %d", got)
	}
}

func TestLeaveOut(t *testing.T) {
	one, two, three := Set{True: 2}, Set{False: 2}, Set{True: 2, False: 4}
	for _, c := range []struct {
		sets []Set
		want []Set
	}{
		{nil, nil},
		{[]Set{one}, nil},
		{[]Set{two}, []Set{two}},
		{[]Set{one, two, three}, []Set{two, three}},
		{[]Set{two, three, one}, []Set{two, three}},
		{[]Set{two, one, three, one}, []Set{two, three, one}},
	} {
		sets := slices.Clone(c.sets)
		if got := LeaveOut(sets, one); !slices.Equal(got, c.want) || !slices.Equal(sets, c.sets) {
			t.Errorf("LeaveOut(%v) = %v, want %v; the sets are %v", c.sets, got, c.want, sets)
		}
	}
}
