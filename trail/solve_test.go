package trail_test

import (
	"fmt"
	"math"
	"math/rand"
	"reflect"
	"strings"
	"testing"

	"trail/api"
	"trail/trail"
)

// birds is three birds in two holes: no value is to be had by pushing, and no world allows all.
var birds = [][]int{{1, 2}, {3, 4}, {5, 6}, {-1, -3}, {-1, -5}, {-3, -5}, {-2, -4}, {-2, -6}, {-4, -6}}

// cube has a clause for each of the worlds of some variables, the one that it does not allow: of all sets of clauses over them this one is the hardest to refute.
func cube(vars int) [][]int {
	var l [][]int
	for world := range 1 << vars {
		var c []int
		for v := 1; v <= vars; v++ {
			c = append(c, v*(1-world>>(v-1)&1*2))
		}
		l = append(l, c)
	}
	return l
}

// moved has all variables moved up.
func moved(clauses [][]int, by int) [][]int {
	var l [][]int
	for _, c := range clauses {
		var m []int
		for _, n := range c {
			if n < 0 {
				m = append(m, n-by)
			} else {
				m = append(m, n+by)
			}
		}
		l = append(l, m)
	}
	return l
}

func (w *watched) status(budget, status, reason int) api.Answer {
	w.t.Helper()
	a := w.solve(budget)
	if a.Status != status || a.Reason != reason {
		w.t.Fatalf("over %v, with %+v and the budget %d: %+v, want status %d, reason %d", w.taken, w.settings, budget, a, status, reason)
	}
	return a
}

func TestSolveRefuses(t *testing.T) {
	for _, w := range []*watched{spacious(t), spacious(t, birds...), spacious(t, nil), watch(t, 0, 0, birds...)} {
		for range 2 {
			w.refused(many(1, 21), 0, api.ErrLong)
			w.refused(many(0, 21), -1, api.ErrLong)
			w.refused(many(11, 100000), math.MinInt, api.ErrLong)
			w.refused(append(many(1, 20), 11), 0, api.ErrLong)
			for _, n := range []int{0, 11, -11, math.MinInt, math.MaxInt, 1 << 32, 1<<32 + 1} {
				w.refused([]int{n}, 0, api.ErrLit)
				w.refused([]int{7, n}, 1, api.ErrLit)
				w.refused(append(many(-10, 19), n), -1, api.ErrLit)
			}
			for _, budget := range []int{-1, -2, math.MinInt, -1 << 32} {
				w.refused(nil, budget, api.ErrBudget)
				w.refused([]int{}, budget, api.ErrBudget)
				w.refused(many(7, 20), budget, api.ErrBudget)
				w.refused([]int{8, -8}, budget, api.ErrBudget)
			}
			w.solve(1)
		}
	}
}

func TestSolveNoClause(t *testing.T) {
	for _, budget := range []int{0, 1, math.MaxInt} {
		for _, w := range []*watched{spacious(t), watch(t, 0, 0), watch(t, 0, 0, []int{1, -1}, []int{-10, 3, 10})} {
			for range 3 {
				if a := w.status(budget, api.Sat, 0); len(a.Values) != 0 || w.proof != "" {
					t.Errorf("P10: no clause: %+v, %q", a, w.proof)
				}
			}
		}
	}
}

func TestSolveEmptyClause(t *testing.T) {
	for _, budget := range []int{0, 1, math.MaxInt} {
		for _, clauses := range [][][]int{{nil}, {nil, nil}, {{1, 2}, nil, {1, -1}}, append([][]int{{}}, birds...)} {
			w := watch(t, 0, 3, clauses...)
			for i := 1; i <= 3; i++ {
				w.status(budget, api.Unsat, 0)
				if w.proof != strings.Repeat("e 0\n", i) {
					t.Errorf("P11: the empty clause: %q", w.proof)
				}
			}
			for range 2 {
				if a := w.status(budget, api.Unknown, api.ByLog); len(a.Clause) != 0 {
					t.Errorf("P13: the empty clause: %+v", a)
				}
			}
			w = watch(t, 0, 0, clauses...)
			w.status(budget, api.Unknown, api.ByLog)
		}
	}
}

func TestSolveByPushingAlone(t *testing.T) {
	w := watch(t, 0, 0, []int{-3, 4}, []int{-2, 3}, []int{2}, []int{-4, -10}, []int{7, 7})
	for range 2 {
		if a := w.status(0, api.Sat, 0); fmt.Sprint(a.Values) != "[2 3 4 7 -10]" {
			t.Errorf("P10: the values %v", a.Values)
		}
	}
	w.add([]int{10, -7})
	w.status(1, api.Unknown, api.ByLog)
	w = watch(t, 0, 1, w.taken...)
	w.status(1, api.Unsat, 0)
	if w.proof != "e 0\n" {
		t.Errorf("P11: the proof %q", w.proof)
	}
}

func TestSolveTautologies(t *testing.T) {
	w := spacious(t, []int{1, -1}, []int{3, -2, 2}, []int{4, 3})
	if a := w.status(0, api.Sat, 0); len(a.Values) != 2 {
		t.Errorf("P10: variables of tautologies have values: %v", a.Values)
	}
	// A tautology makes no component of two.
	w = spacious(t, signs...)
	w.add(moved(birds, 2)...)
	for _, v := range upTo(10) {
		w.add([]int{1, -1, v}, []int{v, 2, -v}, []int{-v, v, 3})
	}
	w.status(0, api.Unsat, 0)
}

func TestSolveAgain(t *testing.T) {
	w := spacious(t, birds[:8]...)
	for range 3 {
		w.status(0, api.Sat, 0)
	}
	w.add(birds[8])
	for i := 1; i <= 5; i++ {
		w.status(0, api.Unsat, 0)
		if w.want.Unsat != i {
			t.Errorf("P7: %d times Unsat: %+v", i, w.want)
		}
	}
	w.add([]int{7, 8}, nil)
	w.status(0, api.Unsat, 0)
}

// Clauses are taken behind each answer, and may make one component of two.
func TestSolveAddBehind(t *testing.T) {
	w := spacious(t, cube(4)[1:]...)
	w.add(moved(cube(3), 6)...)
	w.status(1, api.Unknown, api.ByBudget)
	w.add([]int{-2, 6}, []int{10, 5})
	w.status(2, api.Unknown, api.ByBudget)
	w.add([]int{9, 10, 2, 3})
	for range 5 {
		w.solve(1)
		w.add([]int{8, -3}, []int{-10, 5})
	}
	w.status(0, api.Unsat, 0)
	w.add(cube(4)[0])
	w.status(0, api.Unsat, 0)

	w = spacious(t, []int{1, 2, 3}, []int{-1, -2})
	w.status(0, api.Sat, 0)
	for _, c := range [][]int{{-3}, {-1, 2}, {4, 5}, {-4}, {-5, 2}} {
		w.add(c)
		w.status(0, api.Sat, 0)
	}
	w.add([]int{-2})
	w.status(0, api.Unsat, 0)
}

// A clause that was learnt may be taken later: then it is there twice, and is not learnt again.
func TestSolveTakesWhatWasLearnt(t *testing.T) {
	w := spacious(t, cube(4)...)
	for w.solve(1).Status == api.Unknown {
		w.add(w.learnt[len(w.learnt)-1])
	}
	w.status(0, api.Unsat, 0)
	if len(w.taken) == 16 {
		t.Error("nothing was learnt")
	}
}

func TestSolveReset(t *testing.T) {
	w := watch(t, 200, 200, cube(4)...)
	w.status(0, api.Unsat, 0)
	proof := w.proof
	w.reset()
	w.status(0, api.Sat, 0)
	w.reset()
	w.add(cube(4)...)
	w.status(1, api.Unknown, api.ByBudget)
	w.reset()
	w.add(cube(4)...)
	w.status(0, api.Unsat, 0)
	if w.proof != proof {
		t.Errorf("P2: behind Reset the proof %q, of a fresh solver %q", w.proof, proof)
	}
	for _, room := range [][2]int{{3, 200}, {200, 3}} {
		w = watch(t, room[0], room[1], cube(4)...)
		a := w.status(0, api.Unknown, map[bool]int{true: api.ByHeld, false: api.ByLog}[room[0] == 3])
		w.reset()
		w.status(0, api.Sat, 0)
		w.add(cube(4)...)
		if b := w.solve(0); !reflect.DeepEqual(a, b) {
			t.Errorf("P2: behind Reset %+v, of a fresh solver %+v", b, a)
		}
		w.reset()
		w.add([]int{3})
		w.status(0, api.Sat, 0)
	}
}

func TestSolveBudget(t *testing.T) {
	for budget := 1; budget <= 20; budget++ {
		w := spacious(t, cube(4)...)
		for w.solve(budget).Status == api.Unknown {
			if w.want.Learnt%budget != 0 {
				t.Fatalf("P13: the budget %d: %+v", budget, w.want)
			}
		}
		w.status(budget, api.Unsat, 0)
	}
	for _, budget := range []int{0, 1 << 32, math.MaxInt} {
		spacious(t, cube(4)...).status(budget, api.Unsat, 0)
	}
	// What is learnt ahead of Unknown stays, so that all budgets together come to an answer.
	r := rand.New(rand.NewSource(1))
	for range 20 {
		w := spacious(t, someClauses(r, 10, 50)...)
		rounds := 0
		for w.solve(1).Status == api.Unknown {
			rounds++
			if w.want.Learnt != rounds {
				t.Fatalf("P13: over %v %d clauses in %d rounds", w.taken, w.want.Learnt, rounds)
			}
		}
	}
}

// A budget that is spent is no reason for Unknown if there is an answer without learning more.
func TestSolveBudgetJustEnough(t *testing.T) {
	for _, clauses := range [][][]int{cube(3), cube(4), append(moved(cube(3), 2), signs...), append(moved(birds[1:], 4), cube(4)...)} {
		w := spacious(t, clauses...)
		w.status(0, api.Unsat, 0)
		spacious(t, clauses...).status(w.want.Learnt, api.Unsat, 0)
		spacious(t, clauses...).status(w.want.Learnt-1, api.Unknown, api.ByBudget)
	}
}

func TestSolveHeld(t *testing.T) {
	w := spacious(t, cube(4)...)
	w.status(0, api.Unsat, 0)
	need := w.want.Held
	for held := range need {
		less := watch(t, held, api.MaxRoom, cube(4)...)
		a := less.status(0, api.Unknown, api.ByHeld)
		for range 3 {
			if again := less.status(0, api.Unknown, api.ByHeld); !reflect.DeepEqual(a, again) {
				t.Errorf("P13: with Held %d first %+v, then %+v", held, a, again)
			}
		}
	}
	enough := watch(t, need, api.MaxRoom, cube(4)...)
	enough.status(0, api.Unsat, 0)
	enough.status(0, api.Unsat, 0)
	// The clauses of all Solves count, not those of one.
	for held := range need {
		w = watch(t, held, api.MaxRoom, cube(4)...)
		a := w.solve(1)
		for a.Reason == api.ByBudget {
			a = w.solve(1)
		}
		if a.Reason != api.ByHeld {
			t.Errorf("P13: with Held %d and the budget 1 again and again: %+v", held, a)
		}
	}
}

func TestSolveLog(t *testing.T) {
	w := spacious(t, cube(4)...)
	w.status(0, api.Unsat, 0)
	need := w.want.Log
	for log := range need {
		less := watch(t, api.MaxRoom, log, cube(4)...)
		a := less.status(0, api.Unknown, api.ByLog)
		for range 3 {
			if again := less.status(0, api.Unknown, api.ByLog); !reflect.DeepEqual(a, again) {
				t.Errorf("P13: with Log %d first %+v, then %+v", log, a, again)
			}
		}
	}
	enough := watch(t, api.MaxRoom, need+2, cube(4)...)
	for range 3 {
		enough.status(0, api.Unsat, 0)
	}
	for range 2 {
		enough.status(0, api.Unknown, api.ByLog)
	}
	enough.add([]int{7, 8})
	enough.status(0, api.Unknown, api.ByLog)
	enough.reset()
	enough.status(0, api.Sat, 0)
}

// With just as much room as P14 names there is an answer, however often.
func TestSolveAnswers(t *testing.T) {
	r := rand.New(rand.NewSource(2))
	for vars := 0; vars <= 10; vars++ {
		for range 30 {
			again := r.Intn(4)
			held, log := roomFor(vars, again)
			w := watch(t, held, log, someClauses(r, vars, r.Intn(150/max(1, min(vars, 3))))...)
			for len(w.seen()) < vars {
				w.add([]int{1 + r.Intn(vars)})
			}
			for range again + 1 {
				if a := w.solve(0); a.Status == api.Unknown {
					t.Fatalf("P14: over %v: %+v", w.taken, a)
				}
			}
		}
	}
	w := watch(t, 0, 10, nil)
	for range 9 {
		w.status(0, api.Unsat, 0)
	}
}

func TestSolveComponents(t *testing.T) {
	for _, clauses := range [][][]int{
		append(moved(signs, 8), birds...),
		append(moved(cube(4), 6), cube(4)...),
		append(moved(cube(4), 6), cube(4)[1:]...),
		append(moved(cube(3), 7), append(moved(cube(3), 4), cube(4)[:15]...)...),
		append(moved(birds, 2), signs...),
		append(append(append(moved(signs, 2), moved(signs, 4)...), moved(signs, 6)[:3]...), signs...),
		append(moved(birds, 4), birds[:1]...),
		append(append([][]int{}, birds[:8]...), moved(signs[:3], 7)...),
	} {
		w := spacious(t, clauses...)
		w.solve(0)
		w = spacious(t, clauses...)
		for w.solve(1).Status == api.Unknown {
		}
	}
}

// scattered has clauses of several components, whose variables lie between each other's.
func scattered(r *rand.Rand) [][]int {
	names := r.Perm(10)
	cut := 3 + r.Intn(5)
	var clauses [][]int
	for i, c := range append(someClauses(r, cut, 5*cut-4), moved(someClauses(r, 10-cut, 5*(10-cut)-4), cut)...) {
		if i >= 48 {
			break
		}
		var renamed []int
		for _, n := range c {
			v := names[max(n, -n)-1] + 1
			if n < 0 {
				v = -v
			}
			renamed = append(renamed, v)
		}
		clauses = append(clauses, renamed)
	}
	return clauses
}

func TestSolveScattered(t *testing.T) {
	r := rand.New(rand.NewSource(3))
	var kinds [4]int
	for range 400 {
		kinds[spacious(t, scattered(r)...).solve(0).Status]++
	}
	if kinds[api.Sat] < 50 || kinds[api.Unsat] < 50 {
		t.Errorf("too few of a kind: %v", kinds)
	}
}

// someClauses has clauses of up to three variables.
func someClauses(r *rand.Rand, vars, n int) [][]int {
	var l [][]int
	for range n {
		var c []int
		for _, v := range r.Perm(vars)[:min(3, vars)] {
			c = append(c, (v+1)*(1-2*r.Intn(2)))
		}
		l = append(l, c)
	}
	return l
}

// All sets of clauses over two variables, with little room.
func TestSolveAllSmall(t *testing.T) {
	all := [][]int{nil, {1}, {-1}, {2}, {-2}, {1, 2}, {1, -2}, {-1, 2}, {-1, -2}}
	kinds := map[string]int{}
	for chosen := range 1 << len(all) {
		var clauses [][]int
		for i, c := range all {
			if chosen>>i&1 == 1 {
				clauses = append(clauses, c)
			}
		}
		for held := range 3 {
			for log := range 5 {
				for budget := range 2 {
					w := watch(t, held, log, clauses...)
					for range 2 {
						a := w.solve(budget)
						kinds[fmt.Sprint(a.Status, a.Reason)]++
					}
				}
			}
		}
	}
	if len(kinds) != 4 {
		t.Errorf("not of every kind: %v", kinds)
	}
}

// Any calls, one behind the other.
func TestSolveAnyCalls(t *testing.T) {
	r := rand.New(rand.NewSource(4))
	kinds := map[string]int{}
	for range 600 {
		w := watch(t, r.Intn(1+r.Intn(150)), r.Intn(1+r.Intn(150)))
		pool := somePool(r)
		for range 30 {
			switch r.Intn(10) {
			case 0:
				if r.Intn(10) == 0 {
					w.reset()
				}
			case 1:
				w.refused(nil, -1, api.ErrBudget)
			case 2, 3, 4, 5:
				a := w.solve(r.Intn(3) * r.Intn(3))
				kinds[fmt.Sprint(a.Status, a.Reason)]++
			default:
				w.addSome(r, pool)
			}
		}
	}
	for _, kind := range []string{"1 0", "2 0", "3 1", "3 2", "3 3"} {
		if kinds[kind] < 50 {
			t.Errorf("too few of a kind: %v", kinds)
		}
	}
}

// addSome takes some clauses of a pool, as long as they are taken.
func (w *watched) addSome(r *rand.Rand, pool [][]int) {
	w.t.Helper()
	for range r.Intn(10) {
		c := pool[r.Intn(len(pool))]
		if w.want.Lits+len(c) <= 150 {
			w.add(c)
		}
	}
}

// somePool has clauses that are hard to refute together, and few that are not.
func somePool(r *rand.Rand) [][]int {
	pool := [][]int{{1, -1, 2}, {2, 2, -3}, {3, 3, -10, 3}}
	switch r.Intn(4) {
	case 0:
		pool = append(pool, nil, []int{1 + r.Intn(10)})
		pool = append(pool, someClauses(r, 3+r.Intn(8), 100)...)
	case 1:
		pool = append(pool, scattered(r)...)
	case 2:
		pool = append(pool, append(moved(cube(3), r.Intn(8)), moved(cube(3), r.Intn(8))...)...)
	default:
		pool = append(pool, moved(cube(4), r.Intn(7))...)
	}
	return pool
}

func TestSolveAsMuchAsMayBeTaken(t *testing.T) {
	r := rand.New(rand.NewSource(5))
	for _, wide := range []int{1, 2, 3, 5, 10} {
		for range 20 {
			var clauses [][]int
			for range 150 / wide {
				var c []int
				for _, v := range r.Perm(10)[:wide] {
					c = append(c, (v+1)*(1-2*r.Intn(2)))
				}
				clauses = append(clauses, c)
			}
			w := spacious(t, clauses...)
			for range 2 {
				w.solve(0)
			}
		}
	}
}

// odds has the clauses by which, of some variables, the number of those that are true is odd, or even.
func odds(vars []int, odd bool) [][]int {
	var l [][]int
	for world := range 1 << len(vars) {
		var c []int
		n := 0
		for i, v := range vars {
			n += world >> i & 1
			c = append(c, v*(1-world>>i&1*2))
		}
		if n&1 == 1 != odd {
			l = append(l, c)
		}
	}
	return l
}

func TestSolveLongProofs(t *testing.T) {
	r := rand.New(rand.NewSource(6))
	longest := 0
	for range 50 {
		// Each of eight variables stands in two of the four lists, so that not just one of these is odd.
		v := r.Perm(10)[:8]
		w := spacious(t)
		for i, list := range [][]int{{0, 1, 2, 6}, {0, 3, 4, 7}, {1, 3, 5, 6}, {2, 4, 5, 7}} {
			var vars []int
			for _, k := range list {
				vars = append(vars, v[k]+1)
			}
			w.add(odds(vars, i == 0)...)
		}
		w.status(0, api.Unsat, 0)
		longest = max(longest, strings.Count(w.proof, "\n"))
	}
	if longest < 40 {
		t.Errorf("the longest proof has %d lines", longest)
	}
}

func overwrite(lists ...[]int) {
	for _, l := range lists {
		l = l[:cap(l)]
		for i := range l {
			l[i] = 77
		}
	}
}

func TestSolveListsAreTheCallers(t *testing.T) {
	for _, settings := range []api.Settings{{Held: 500, Log: 500}, {Held: 0, Log: 500}, {Held: 500, Log: 0}, {Held: 9, Log: 14}} {
		for _, clauses := range [][][]int{birds[:8], cube(4)} {
			x, _ := trail.New(settings)
			y, _ := trail.New(settings)
			for _, c := range clauses {
				x.Add(c)
				y.Add(c)
			}
			for range 4 {
				a, _ := x.Solve(nil, 0)
				b, _ := y.Solve([]int{}, 0)
				if !reflect.DeepEqual(a, b) || x.Proof() != y.Proof() || x.Counts() != y.Counts() {
					t.Fatalf("P2: the same calls answer %+v and %+v, with the proofs %q and %q", a, b, x.Proof(), y.Proof())
				}
				overwrite(a.Values, a.Core, a.Clause)
			}
		}
	}
}

func TestSolveLeavesAssumptions(t *testing.T) {
	for _, numbers := range [][]int{many(5, 21), {5, 0, 6}, {5, -5, 6}} {
		behind := append(append([]int{}, numbers...), 8, 9)
		for _, budget := range []int{-1, 0} {
			fresh(t).Solve(behind[:len(numbers)], budget)
			if fmt.Sprint(behind) != fmt.Sprint(append(numbers[:len(numbers):len(numbers)], 8, 9)) {
				t.Errorf("P2: what was handed in reads %v", behind)
			}
		}
	}
}
