package components

import (
	"fmt"
	"math/rand"
	"testing"

	"trail/literal"
)

func sets(t *testing.T, clauses [][]int) []literal.Set {
	t.Helper()
	var l []literal.Set
	for _, c := range clauses {
		s, right := literal.Of(c)
		if !right {
			t.Fatal("no literals:", c)
		}
		l = append(l, s)
	}
	return l
}

func TestOf(t *testing.T) {
	for _, c := range []struct {
		clauses [][]int
		seen    []int
		want    [][]int
	}{
		{nil, nil, nil},
		{nil, []int{10}, [][]int{{10}}},
		{nil, []int{3, 1, 10}, [][]int{{1}, {3}, {10}}},
		{[][]int{{1, -2}}, []int{1, 2}, [][]int{{1, 2}}},
		{[][]int{{1, -2}, {4}}, []int{9, 2, 1, 5, 4}, [][]int{{1, 2}, {4}, {5}, {9}}},
		{[][]int{{1, 10}}, []int{1, 2, 3, 4, 5, 6, 7, 8, 9, 10}, [][]int{{1, 10}, {2}, {3}, {4}, {5}, {6}, {7}, {8}, {9}}},
		{[][]int{{1}}, nil, [][]int{{1}}},
		{[][]int{{-10}, {10}, {1}}, nil, [][]int{{1}, {10}}},
		{[][]int{{1, 2}, {-2, 3}}, nil, [][]int{{1, 2, 3}}},
		{[][]int{{1, 2}, {3, 4}}, nil, [][]int{{1, 2}, {3, 4}}},
		{[][]int{{1, 2}, {3, 4}, {-4, -1}}, nil, [][]int{{1, 2, 3, 4}}},
		{[][]int{{1}, {2}, {3}, {4}, {5, 6}, {1, -2, 3}, {6, 7}}, nil, [][]int{{1, 2, 3}, {4}, {5, 6, 7}}},
		{[][]int{{1, 10}, {2, 9}, {3, 8}, {4, 7}, {5, 6}, {10, 9}, {8, 7}, {7, 6}}, nil, [][]int{{1, 2, 9, 10}, {3, 4, 5, 6, 7, 8}}},
	} {
		seen, _ := literal.Of(c.seen)
		got := Of(sets(t, c.clauses), seen.Vars())
		if len(got) != len(c.want) {
			t.Errorf("P12: over %v %d components, want %v", c.clauses, len(got), c.want)
			continue
		}
		for _, vars := range sets(t, c.want) {
			found := false
			for _, g := range got {
				found = found || g == vars.Vars()
			}
			if !found {
				t.Errorf("P12: over %v not among the components: %+v", c.clauses, vars)
			}
		}
	}
}

// reach goes from neighbour to neighbour, as the document words it.
func reach(clauses [][]int, from int) map[int]bool {
	there := map[int]bool{from: true}
	for size := 0; size != len(there); {
		size = len(there)
		for _, c := range clauses {
			for _, n := range c {
				for _, m := range c {
					if there[max(n, -n)] {
						there[max(m, -m)] = true
					}
				}
			}
		}
	}
	return there
}

func TestOfAsTheWordsSay(t *testing.T) {
	r := rand.New(rand.NewSource(1))
	for range 5000 {
		var clauses [][]int
		seen := map[int]bool{}
		for range r.Intn(9) {
			var c []int
			for _, v := range r.Perm(10)[:1+r.Intn(3)] {
				c = append(c, (v+1)*(1-2*r.Intn(2)))
				seen[v+1] = true
			}
			clauses = append(clauses, c)
		}
		var bits literal.Set
		for range r.Intn(4) {
			seen[1+r.Intn(10)] = true
		}
		for v := range seen {
			bits = bits.With(v)
		}
		all := 0
		for _, vars := range Of(sets(t, clauses), bits.Vars()) {
			want := reach(clauses, literal.FirstVar(vars))
			for v := range want {
				s, _ := literal.Of([]int{v})
				if vars&s.Vars() == 0 {
					t.Fatalf("P12: over %v variable %d is not in its component", clauses, v)
				}
			}
			if literal.CountVars(vars) != len(want) || all&vars != 0 {
				t.Fatalf("P12: over %v a component %b, want %v", clauses, vars, fmt.Sprint(want))
			}
			all |= vars
		}
		if literal.CountVars(all) != len(seen) {
			t.Fatalf("P12: over %v the components have %b", clauses, all)
		}
	}
}
