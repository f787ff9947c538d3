package pushing

import (
	"math/rand"
	"testing"

	"trail/literal"
)

func set(t *testing.T, literals ...int) literal.Set {
	t.Helper()
	s, right := literal.Of(literals)
	if !right {
		t.Fatal("no literals:", literals)
	}
	return s
}

func stands(t *testing.T, clauses ...[]int) *Clauses {
	t.Helper()
	c := New()
	for _, l := range clauses {
		c.Add(set(t, l...), 1)
	}
	return c
}

func TestFollows(t *testing.T) {
	chain := [][]int{{-3, 4}, {-2, 3}, {-1, 2}}
	all := [][]int{{1, 2}, {1, -2}, {-1, 2}, {-1, -2}}
	wide := [][]int{{1, 2, 3, 4, 5, 6, 7, 8, 9, 10}}
	for _, c := range []struct {
		clauses [][]int
		clause  []int
		want    bool
	}{
		{nil, nil, false},
		{nil, []int{1}, false},
		{nil, []int{1, -1}, true},
		{nil, []int{-10, 3, 10}, true},
		{[][]int{nil}, nil, true},
		{[][]int{nil}, []int{5}, true},
		{[][]int{{1}}, []int{1}, true},
		{[][]int{{1}}, []int{-1}, false},
		{[][]int{{1}}, []int{2, 1}, true},
		{[][]int{{1}}, []int{2}, false},
		{[][]int{{1}}, nil, false},
		{[][]int{{1}, {-1}}, nil, true},
		{[][]int{{1}, {-1}}, []int{7}, true},
		{[][]int{{10}, {-10}}, nil, true},
		{chain, []int{-1, 4}, true},
		{chain, []int{4, -1, 5}, true},
		{chain, []int{-1}, false},
		{chain, []int{4}, false},
		{chain, []int{1, 4}, false},
		{chain, []int{1, -4}, false},
		{append([][]int{{1}}, chain...), []int{4}, true},
		{append([][]int{{1}, {-4}}, chain...), nil, true},
		// Two literals of a clause that are open make nothing known.
		{all, nil, false},
		{all, []int{1}, true},
		{all, []int{-2}, true},
		{all, []int{3}, false},
		{wide, []int{1, 2, 3, 4, 5, 6, 7, 8, 9}, false},
		{wide, []int{1, 2, 3, 4, 5, 6, 7, 8, 9, 10}, true},
		{append([][]int{{-10}}, wide...), []int{1, 2, 3, 4, 5, 6, 7, 8, 9}, true},
		// One that is known makes the clause say nothing.
		{[][]int{{1, 2}, {-2, 3}}, []int{-1, 3}, false},
		{[][]int{{1, 2}, {-2, 3}}, []int{-1, -2}, false},
		// So in every world, but not to be had by pushing.
		{[][]int{{1, 2, 3}, {1, 2, -3}, {1, -2, 3}, {1, -2, -3}}, []int{1}, false},
		{[][]int{{1, 2, 3}, {1, 2, -3}, {1, -2, 3}, {1, -2, -3}, {1, 2}}, []int{1}, true},
		// Tautologies say nothing.
		{[][]int{{1, -1}}, nil, false},
		{[][]int{{1, -1}}, []int{1}, false},
		{[][]int{{1, -1, 2}}, []int{1}, false},
		{[][]int{{1, -1, 2}}, []int{-1}, false},
		{[][]int{{1, -1, 2}}, []int{2}, false},
		{[][]int{{1, -1, 2, -2}, {-10, 10}}, []int{2, 10}, false},
	} {
		if got := stands(t, c.clauses...).Follows(set(t, c.clause...)); got != c.want {
			t.Errorf("P8: over %v does %v follow: %v", c.clauses, c.clause, got)
		}
	}
}

func TestFollowsChangesNothing(t *testing.T) {
	c := stands(t, []int{1, 2}, []int{1, -2})
	for range 3 {
		if !c.Follows(set(t, 1)) || c.Follows(set(t, 2)) || c.Follows(set(t)) {
			t.Fatal("P8: what follows is another the next time")
		}
	}
	if c.Drop(set(t, 1)) {
		t.Error("P8: what follows stands there without being added")
	}
}

func TestDropTakesOneCopy(t *testing.T) {
	c := New()
	clauses := []literal.Set{set(t), set(t, 1), set(t, 1, 2), set(t, 2), set(t, -1), set(t, 1, -1), set(t, -10, 10, 3)}
	for i, s := range clauses {
		for range i {
			c.Add(s, 1)
		}
		c.Add(s, i)
	}
	for i, s := range clauses {
		for n := range 2 * i {
			if !c.Drop(s) {
				t.Fatalf("P8: clause %d was added %d times and dropped %d times", i, 2*i, n)
			}
		}
		if c.Drop(s) {
			t.Errorf("P8: clause %d was added %d times and dropped once more", i, 2*i)
		}
	}
	for _, s := range []literal.Set{set(t, 2, 1, 3), set(t, -2), set(t, 3), set(t, 10)} {
		if c.Drop(s) {
			t.Errorf("P8: %+v was dropped and never added", s)
		}
	}
}

func TestDroppedClausesMakeNothingKnown(t *testing.T) {
	c := New()
	c.Add(set(t), 0)
	c.Add(set(t, 1), 2)
	c.Drop(set(t, 1))
	if !c.Follows(set(t, 1)) {
		t.Error("P8: one of two copies is left, and is not pushed over")
	}
	c.Drop(set(t, 1))
	if c.Follows(set(t, 1)) || c.Follows(set(t, 1, 2)) {
		t.Error("P8: a clause that was dropped is pushed over")
	}
	c.Add(set(t, 1), 1)
	if !c.Follows(set(t, 1)) {
		t.Error("P8: a clause that was dropped and added again is not pushed over")
	}
}

// byTheWords pushes as the document words it, over lists, with no order and no tree.
func byTheWords(clauses [][]int, clause []int) bool {
	known := map[int]bool{}
	for _, n := range clause {
		known[-n] = true
	}
	for {
		for n := range known {
			if known[-n] {
				return true
			}
		}
		size := len(known)
		for _, c := range clauses {
			open := map[int]bool{}
			for _, n := range c {
				if !known[-n] {
					open[n] = true
				}
			}
			if len(open) == 0 {
				return true
			}
			if len(open) == 1 {
				for n := range open {
					known[n] = true
				}
			}
		}
		if len(known) == size {
			return false
		}
	}
}

func randomClause(r *rand.Rand, vars, most int) []int {
	var l []int
	for range r.Intn(most + 1) {
		n := 1 + r.Intn(vars)
		if r.Intn(2) == 0 {
			n = -n
		}
		l = append(l, n)
	}
	return l
}

func TestFollowsAsTheWordsSay(t *testing.T) {
	r := rand.New(rand.NewSource(1))
	yes, no := 0, 0
	for range 20000 {
		vars := 1 + r.Intn(10)
		var clauses [][]int
		for range r.Intn(3 * vars) {
			clauses = append(clauses, append(randomClause(r, vars, 2), 1+r.Intn(vars), -1-r.Intn(vars)))
			clauses = append(clauses, randomClause(r, vars, 4))
			if len(clauses[len(clauses)-1]) == 0 {
				clauses = clauses[:len(clauses)-1]
			}
		}
		c := stands(t, clauses...)
		for range 5 {
			clause := randomClause(r, vars, 4)
			got, want := c.Follows(set(t, clause...)), byTheWords(clauses, clause)
			if got != want {
				t.Fatalf("P8: over %v does %v follow: %v, want %v", clauses, clause, got, want)
			}
			if got {
				yes++
			} else {
				no++
			}
		}
	}
	if yes < 10000 || no < 10000 {
		t.Errorf("too few of a kind: %d follow, %d do not", yes, no)
	}
}

func TestPush(t *testing.T) {
	chain := [][]int{{-3, 4}, {-2, 3}, {-1, 2}}
	for _, c := range []struct {
		clauses [][]int
		from    []int
		want    []int
		clash   bool
	}{
		{nil, nil, nil, false},
		{nil, []int{3, -10}, []int{3, -10}, false},
		{nil, []int{3, -3}, nil, true},
		{[][]int{nil}, nil, nil, true},
		{[][]int{nil}, []int{1}, nil, true},
		{[][]int{{1}}, nil, []int{1}, false},
		{[][]int{{1}}, []int{-1}, nil, true},
		{chain, nil, nil, false},
		{chain, []int{1}, []int{1, 2, 3, 4}, false},
		{chain, []int{-4, 9}, []int{9, -4, -3, -2, -1}, false},
		{chain, []int{1, -4}, nil, true},
		{append([][]int{{2}}, chain...), nil, []int{2, 3, 4}, false},
		{append([][]int{{2}}, chain...), []int{-4}, nil, true},
		{[][]int{{1, 2}, {1, -2}}, nil, nil, false},
		{[][]int{{1, 2}, {1, -2}}, []int{-1}, nil, true},
		{[][]int{{1, 2}, {1, -2}}, []int{1}, []int{1}, false},
		{[][]int{{1, 2}, {1, -2}}, []int{-2}, []int{1, -2}, false},
	} {
		known, clash := stands(t, c.clauses...).Push(set(t, c.from...))
		if known != set(t, c.want...) || clash != c.clash {
			t.Errorf("P8: over %v pushing from %v makes known %v, a clash: %v", c.clauses, c.from, known.List(), clash)
		}
	}
}

func TestPushMakesKnownWhatFollows(t *testing.T) {
	r := rand.New(rand.NewSource(2))
	for range 3000 {
		vars := 1 + r.Intn(6)
		var clauses [][]int
		for range r.Intn(3 * vars) {
			clauses = append(clauses, append(randomClause(r, vars, 2), 1+r.Intn(vars)))
		}
		c := stands(t, clauses...)
		from := randomClause(r, vars, 3)
		known, clash := c.Push(set(t, from...))
		if want := byTheWords(clauses, set(t, from...).Opposites().List()); clash != want {
			t.Fatalf("P8: over %v pushing from %v comes to a clash: %v", clauses, from, clash)
		}
		again, _ := c.Push(known)
		if !clash && (again != known || known.Join(set(t, from...)) != known) {
			t.Fatalf("P8: over %v pushing from %v makes known %v", clauses, from, known.List())
		}
		for _, n := range known.List() {
			if !c.Follows(set(t, from...).Opposites().With(n)) {
				t.Fatalf("P8: over %v pushing from %v makes known %d", clauses, from, n)
			}
		}
	}
}
