package trail_test

import (
	"fmt"
	"math"
	"math/rand"
	"reflect"
	"slices"
	"strings"
	"testing"

	"trail/api"
	"trail/trail"
)

// chain is one component in which each literal makes the next one known.
var chain = [][]int{{-1, 2}, {-2, 3}, {-3, 4}}

// sat is a Solve that must answer these values.
func (w *watched) sat(assume []int, values ...int) {
	w.t.Helper()
	if a := w.solveWith(assume, 0); a.Status != api.Sat || !slices.Equal(a.Values, values) {
		w.t.Errorf("P10: over %v with %v: %+v, want the values %v", w.taken, assume, a, values)
	}
}

// unsat is a Solve that must answer Unsat with this core.
func (w *watched) unsat(assume []int, core ...int) {
	w.t.Helper()
	if a := w.solveWith(assume, 0); a.Status != api.Unsat || !slices.Equal(a.Core, core) {
		w.t.Errorf("P11: over %v with %v: %+v, want the core %v", w.taken, assume, a, core)
	}
}

// unknown is a Solve that must answer Unknown by this reason.
func (w *watched) unknown(assume []int, budget, reason int) api.Answer {
	w.t.Helper()
	a := w.solveWith(assume, budget)
	if a.Status != api.Unknown || a.Reason != reason {
		w.t.Fatalf("P13: over %v with %v, with %+v and the budget %d: %+v, want the reason %d", w.taken, assume, w.settings, budget, a, reason)
	}
	return a
}

func TestAssumeExamples(t *testing.T) {
	w := spacious(t, chain[:2]...)
	w.unsat([]int{1, 4, -3}, 1, -3)
	if w.proof != "e -1 3 0\n" && w.proof != "e 3 -1 0\n" {
		t.Errorf("P11: the proof %q", w.proof)
	}
	w = spacious(t)
	w.sat([]int{5}, 5)
	w.unsat([]int{5, -5}, 5, -5)
	w.sat([]int{-5, -5}, -5)
	if w.want.Vars != 1 || w.want.Unsat != 1 || w.want.Log != 3 {
		t.Errorf("P7: %+v", w.want)
	}
}

func TestAssumeRefused(t *testing.T) {
	for _, clauses := range [][][]int{nil, chain, birds, {nil}} {
		w := spacious(t, clauses...)
		for _, n := range []int{0, 11, -11, math.MinInt, math.MaxInt} {
			w.refused([]int{9, n}, 0, api.ErrLit)
			w.refused([]int{n, -9, 9}, -1, api.ErrLit)
			w.refused(append(many(9, 20), n), -1, api.ErrLong)
			w.refused(append(many(9, 19), n), 0, api.ErrLit)
		}
		w.refused(many(9, 21), 0, api.ErrLong)
		w.refused(many(9, 20), -1, api.ErrBudget)
		w.refused([]int{9, -9}, math.MinInt, api.ErrBudget)
		// What was refused is not seen, what was not refused is.
		seen := w.want.Vars
		w.solveWith(many(9, 20), 0)
		if w.want.Vars != seen+1 {
			t.Errorf("P7: over %v with 9: %+v", clauses, w.want)
		}
		w.refused([]int{10, 0}, 0, api.ErrLit)
	}
}

func TestAssumeAsManyAsMayBe(t *testing.T) {
	all := append(upTo(10), opposites(upTo(10))...)
	w := spacious(t)
	if a := w.solveWith(all, 0); a.Status != api.Unsat || len(a.Core) != 2 {
		t.Errorf("P11: of all literals: %+v", a)
	}
	w.sat(append(upTo(10), upTo(10)...), upTo(10)...)
	w.refused(append(all, 1), 0, api.ErrLong)
	w = spacious(t, chain...)
	w.sat(append(many(1, 19), -10), 1, 2, 3, 4, -10)
	w.unsat(append(many(-4, 19), 1), -4, 1)
	w = spacious(t, birds...)
	w.solveWith(all, 0)
	w.solveWith(slices.Concat(many(1, 7), many(-1, 6), many(1, 7)), 0)
}

// Neither order nor repeats matter to what is so, but the core has the list's order.
func TestAssumeTwice(t *testing.T) {
	w := spacious(t, chain...)
	w.sat([]int{1, 1, 1}, 1, 2, 3, 4)
	w.unsat([]int{-4, 1, -4, 1}, -4, 1)
	w.unsat([]int{1, -4, 1, -4}, 1, -4)
	w.unsat([]int{7, 1, 7, 1, 8, 8, -4}, 1, -4)
	w.unsat([]int{9, 7, -9, 9, -9}, 9, -9)
	w.unsat([]int{-9, 7, -9, 9, -9}, -9, 9)
	w.sat([]int{-4, -4}, -1, -2, -3, -4, 7, 8, 9)
}

func TestAssumeContradiction(t *testing.T) {
	for _, log := range []int{3, 2} {
		for _, pair := range [][]int{{1, -1}, {-1, 1}, {3, 3, -3}, {-9, 9}} {
			w := watch(t, 0, log, []int{1, 2, 3}, []int{-1, -2, -3}, []int{4, 5})
			a := w.solveWith(pair, 0)
			if log == 3 && (a.Status != api.Unsat || !slices.Equal(a.Core, slices.Compact(pair))) {
				t.Errorf("P11: with %v: %+v", pair, a)
			}
			if log == 2 && (a.Reason != api.ByLog || len(a.Clause) != 2) {
				t.Errorf("P13: with %v: %+v", pair, a)
			}
		}
	}
	// Behind it the same solver goes on as if nothing had been.
	w := spacious(t, chain...)
	w.unsat([]int{2, -2}, 2, -2)
	w.sat([]int{2}, 1, 2, 3, 4)
	w.sat([]int{-2}, -1, -2, 3, 4)
	w.unsat([]int{-10, 10}, -10, 10)
	w.sat([]int{-2, -10}, -1, -2, 3, 4, -10)
}

// Variables that assumptions alone have keep being seen, and have values from then on.
func TestAssumeUnknownToClauses(t *testing.T) {
	w := watch(t, 0, 0)
	w.sat([]int{-10}, -10)
	w.sat([]int{3, -7}, 3, -7, 10)
	w.sat([]int{-3}, -3, 7, 10)
	w.sat(nil, 3, 7, 10)
	w.add([]int{-7, 4}, []int{7})
	w.sat([]int{-10}, 3, 4, 7, -10)
	w.reset()
	w.sat(nil)
	w.add([]int{2, 5})
	w.sat([]int{-2}, -2, 5)
	// Seen also with the other answers.
	w = watch(t, 0, 1, []int{1}, []int{-1})
	w.unsat([]int{9})
	w.unknown([]int{8, -7}, 0, api.ByLog)
	if w.want.Vars != 4 {
		t.Errorf("P7: %+v", w.want)
	}
	// A tautology has its variables in no component.
	w = spacious(t, []int{5, -5, 6}, []int{6, 2, -6})
	w.sat([]int{-5}, -5)
	w.unsat([]int{6, -5, -6}, 6, -6)
}

// A component is taken in hand with its own assumptions alone.
func TestAssumeOtherComponents(t *testing.T) {
	w := spacious(t, []int{-1, 2}, []int{-3, 4}, []int{-5, 6}, []int{-7, 8})
	w.unsat([]int{1, 3, 5, 7, -6, 9}, 5, -6)
	w.unsat([]int{-2, 9, 10, 1, 3}, -2, 1)
	w.sat([]int{1, 3, 5, 7, -9}, 1, 2, 3, 4, 5, 6, 7, 8, -9, 10)
	w = spacious(t, append(moved(signs, 5), chain...)...)
	for range 2 {
		a := w.solveWith([]int{-4, 9, 2}, 0)
		if a.Status != api.Unsat || !slices.Equal(a.Core, nil) && !slices.Equal(a.Core, []int{-4, 2}) {
			t.Errorf("P11: %+v", a)
		}
	}
	w.unsat([]int{1, 8})
	// A clash by pushing in one component is not laid on the assumptions of another.
	w = spacious(t, append([][]int{{6}, {-6}}, chain...)...)
	w.unsat([]int{1, 2, 3})
	w.unsat([]int{9, -9})
	if w.proof != "e 0\ne 0\n" {
		t.Errorf("P11: the proof %q", w.proof)
	}
}

func TestAssumeKnownAlready(t *testing.T) {
	w := watch(t, 0, 10, append([][]int{{2}}, chain...)...)
	w.sat([]int{2}, 1, 2, 3, 4)
	w.sat([]int{4, 3, 2, -1}, -1, 2, 3, 4)
	w.unsat([]int{-4}, -4)
	w.unsat([]int{1, 2, -3, 9}, -3)
	w.unsat([]int{3, -2, 2}, -2)
	w.sat(nil, 1, 2, 3, 4, 9)
	w.unsat([]int{3, -3}, -3)
	w.unsat([]int{-4, -3}, -3)
	w.unknown([]int{-4}, 0, api.ByLog)
	w.sat([]int{-9, 3}, 1, 2, 3, 4, -9)
}

// The empty clause, and clauses that no world allows, need no assumption.
func TestAssumeEmptyCore(t *testing.T) {
	for _, clauses := range [][][]int{{nil}, {nil, {1, 2}}, {{1}, {-1}}, {{3, -4}, {4}, {-3}, {1, 2}}} {
		w := watch(t, 0, 4, clauses...)
		w.unsat(nil)
		w.unsat([]int{1})
		w.unsat([]int{1, 2, -1})
		w.unsat([]int{9, 10})
		a := w.unknown([]int{1, -9}, 0, api.ByLog)
		if len(a.Clause) != 0 {
			t.Errorf("P13: over %v: %+v", clauses, a)
		}
		if w.proof != strings.Repeat("e 0\n", 4) {
			t.Errorf("P11: over %v the proof %q", clauses, w.proof)
		}
	}
	w := spacious(t, cube(4)...)
	w.solveWith([]int{1, -2, 7}, 0)
	w.unsat(nil)
	w.unsat([]int{1, -2, 7})
}

func TestAssumeCores(t *testing.T) {
	none, some, all := 0, 0, 0
	r := rand.New(rand.NewSource(11))
	for range 1500 {
		w := spacious(t, someClauses(r, 3+r.Intn(5), 1+r.Intn(30))...)
		assume := someLiterals(r, 1+r.Intn(6))
		a := w.solveWith(assume, 0)
		switch {
		case a.Status != api.Unsat:
		case len(a.Core) == 0:
			none++
		case len(a.Core) == len(assume):
			all++
		default:
			some++
		}
	}
	if none < 50 || some < 50 || all < 50 {
		t.Errorf("too few of a kind: %d, %d, %d", none, some, all)
	}
}

// someLiterals may have one twice, or with its opposite.
func someLiterals(r *rand.Rand, n int) []int {
	var l []int
	for range n {
		l = append(l, (1+r.Intn(10))*(1-2*r.Intn(2)))
	}
	return l
}

// hard is unsatisfiable with any value of 5 that is assumed, but not by pushing.
var hard = append(withLiteral(cube(3), 5), withLiteral(cube(3), -5)...)

func withLiteral(clauses [][]int, n int) [][]int {
	var l [][]int
	for _, c := range clauses {
		l = append(l, append(slices.Clone(c), n))
	}
	return l
}

func TestAssumeLearns(t *testing.T) {
	w := spacious(t, hard...)
	w.unsat([]int{5, 9}, 5)
	if w.want.Learnt == 0 {
		t.Fatal("nothing was learnt")
	}
	// What was learnt stays, and so does what it leads to.
	learnt := w.want.Learnt
	w.unsat([]int{9, 10, 5}, 5)
	if w.want.Learnt != learnt {
		t.Errorf("learnt again: %q", w.proof)
	}
	w.unsat([]int{-5}, -5)
	w.unsat(nil)
	w.unsat([]int{-9, 5, -5})
	w = spacious(t, hard[:8]...)
	w.solveWith([]int{-5, 1}, 0)
	w.solveWith([]int{1, 5}, 0)
	w.solveWith([]int{-5, 6}, 0)
	a := w.solve(0)
	if a.Status != api.Sat || !slices.Contains(a.Values, 5) {
		t.Errorf("P10: %+v", a)
	}
}

func TestAssumeBudget(t *testing.T) {
	for budget := 1; budget <= 6; budget++ {
		w := spacious(t, hard...)
		rounds := 0
		for w.solveWith([]int{5}, budget).Status == api.Unknown {
			rounds++
			if w.want.Learnt != rounds*budget {
				t.Fatalf("P13: the budget %d: %+v", budget, w.want)
			}
		}
		need := w.want.Learnt
		w = spacious(t, hard...)
		w.solveWith([]int{5}, need)
		if w.want.Unsat != 1 {
			t.Errorf("P13: with the budget %d, which is just enough: %+v", need, w.want)
		}
		spacious(t, hard...).unknown([]int{5}, need-1, api.ByBudget)
	}
	// Without learning no budget is spent.
	w := spacious(t, chain...)
	for _, assume := range [][]int{{1}, {1, -4}, {9, -9}, nil} {
		if a := w.solveWith(assume, 1); a.Status == api.Unknown {
			t.Errorf("P13: with %v: %+v", assume, a)
		}
	}
}

func TestAssumeHeld(t *testing.T) {
	w := spacious(t, hard...)
	w.unsat([]int{-5}, -5)
	need := w.want.Held
	for held := range need {
		less := watch(t, held, api.MaxRoom, hard...)
		a := less.unknown([]int{-5}, 0, api.ByHeld)
		if again := less.unknown([]int{-5}, 0, api.ByHeld); !reflect.DeepEqual(a, again) {
			t.Errorf("P13: with Held %d first %+v, then %+v", held, a, again)
		}
		// What needs no learning is answered.
		less.unsat([]int{5, -5}, 5, -5)
		less.unsat([]int{8, -8}, 8, -8)
	}
	enough := watch(t, need, api.MaxRoom, hard...)
	enough.unsat([]int{-5}, -5)
	enough.unsat([]int{-5}, -5)
	enough.unknown([]int{5}, 0, api.ByHeld)
	enough.unsat([]int{-5, 9}, -5)
}

func TestAssumeLog(t *testing.T) {
	w := spacious(t, hard...)
	w.unsat([]int{7, -5}, -5)
	need := w.want.Log
	for log := range need {
		less := watch(t, api.MaxRoom, log, hard...)
		a := less.unknown([]int{7, -5}, 0, api.ByLog)
		if again := less.unknown([]int{7, -5}, 0, api.ByLog); !reflect.DeepEqual(a, again) {
			t.Errorf("P13: with Log %d first %+v, then %+v", log, a, again)
		}
	}
	// The closing line is what is wanting.
	less := watch(t, api.MaxRoom, need-1, hard...)
	if a := less.unknown([]int{-5}, 0, api.ByLog); !slices.Equal(a.Clause, []int{5}) {
		t.Errorf("P13: %+v", a)
	}
	enough := watch(t, api.MaxRoom, need+2, hard...)
	enough.unsat([]int{-5}, -5)
	enough.unsat([]int{-5}, -5)
	enough.unknown([]int{-5}, 0, api.ByLog)
	enough.unknown([]int{5}, 0, api.ByLog)
	enough.unknown([]int{10, -10}, 0, api.ByLog)
}

// The size of the closing line is that of the core, not that of the assumptions.
func TestAssumeLogOfTheCore(t *testing.T) {
	w := watch(t, 0, 3, chain...)
	w.unsat([]int{5, 6, 7, 8, -4, 1}, -4, 1)
	w = watch(t, 0, 2, chain...)
	a := w.unknown([]int{5, 6, 7, 8, -4, 1}, 0, api.ByLog)
	if setOf(a.Clause) != setOf([]int{-1, 4}) || w.want.Vars != 8 {
		t.Errorf("P13: %+v, %+v", a, w.want)
	}
	w.sat([]int{5, 6, 7, 8, 1}, 1, 2, 3, 4, 5, 6, 7, 8)
}

// Behind each answer come all others, with other assumptions or none.
func TestAssumeAgain(t *testing.T) {
	solves := []struct {
		assume []int
		budget int
	}{{nil, 0}, {nil, 1}, {[]int{5, -6}, 0}, {[]int{-6, 5}, 1}, {[]int{-5, -6}, 2}, {[]int{4, -4}, 0}, {[]int{8, -8}, 0}, {[]int{-6, 1}, 1}, {[]int{6}, 0}, {[]int{-8, 10, 6}, 0}}
	clauses := append(withLiteral(hard, 6), []int{-6, 7, 8}, []int{9, 4})
	kinds := map[string]int{}
	for _, first := range solves {
		for _, second := range solves {
			for _, third := range solves {
				w := spacious(t, clauses...)
				w.solveWith(first.assume, first.budget)
				w.solveWith(second.assume, second.budget)
				a := w.solveWith(third.assume, third.budget)
				kinds[fmt.Sprint(a.Status, a.Reason)]++
			}
		}
	}
	if len(kinds) != 3 {
		t.Errorf("not of every kind: %v", kinds)
	}
}

func TestAssumeAddBehind(t *testing.T) {
	w := spacious(t, hard[:8]...)
	w.sat([]int{5, 9}, 1, 2, 3, 5, 9)
	w.add([]int{-9, 10}, []int{-10, -5})
	w.unsat([]int{5, 9}, 5, 9)
	w.add(hard[8:12]...)
	w.unsat([]int{8, -5, -9}, -5)
	// 9 and 10, which were apart, are one component with the others now.
	w.add([]int{9, 8, 7}, []int{-7})
	w.solveWith([]int{-8}, 0)
	w.solveWith([]int{-8, 7}, 0)
	w.add(hard[12:]...)
	w.solveWith([]int{-8, 6}, 1)
	w.solveWith([]int{-8, 6}, 0)
	w.unsat(nil)
	w.add(nil)
	w.unsat([]int{5, -6})
	// An assumption that a clause refutes later.
	w = watch(t, 0, 2)
	w.sat([]int{3}, 3)
	w.add([]int{-3})
	w.unsat([]int{3}, 3)
	w.sat(nil, -3)
}

func TestAssumeReset(t *testing.T) {
	calls := func(w *watched) []api.Answer {
		w.add(hard...)
		return []api.Answer{w.solveWith([]int{5, 9}, 2), w.solveWith([]int{5, 9}, 0), w.solveWith([]int{-9, 10}, 0), w.solveWith([]int{4, -4}, 0), w.solve(0)}
	}
	for _, room := range [][2]int{{500, 500}, {6, 500}, {500, 9}, {0, 0}} {
		w := watch(t, room[0], room[1])
		want := calls(w)
		proof := w.proof
		w.reset()
		w.sat(nil)
		w.reset()
		got := calls(w)
		if !reflect.DeepEqual(got, want) || w.proof != proof {
			t.Errorf("P2, P7: behind Reset %+v, %q; of a fresh solver %+v, %q", got, w.proof, want, proof)
		}
	}
}

func TestAssumeWithEmptyAndNil(t *testing.T) {
	for _, clauses := range [][][]int{nil, chain, birds, hard} {
		a := spacious(t, clauses...).solveWith(nil, 0)
		b := spacious(t, clauses...).solveWith([]int{}, 0)
		if !reflect.DeepEqual(a, b) {
			t.Errorf("P9: over %v %+v, and %+v", clauses, a, b)
		}
	}
}

// With just as much room as P14 names there is an answer with any assumptions, however often; their variables count too.
func TestAssumeAnswers(t *testing.T) {
	r := rand.New(rand.NewSource(12))
	for vars := 1; vars <= 10; vars++ {
		for range 40 {
			unsat := r.Intn(4)
			held, log := roomFor(vars, unsat)
			w := watch(t, held, log, someClauses(r, vars, r.Intn(150/min(vars, 3)))...)
			for w.want.Unsat <= unsat {
				var assume []int
				for range 4 + r.Intn(3) {
					assume = append(assume, (1+r.Intn(vars))*(1-2*r.Intn(2)))
				}
				if r.Intn(4) == 0 {
					assume = append(upTo(vars), opposites(upTo(vars))...)
				}
				w.solveWith(assume, 0)
			}
		}
	}
	// One variable that no clause has: 1 times 3 and 2 times 3 plus 3.
	w := watch(t, 3, 9)
	w.unsat([]int{2, -2}, 2, -2)
}

// All assumptions of up to three numbers over three variables, over some clauses of these, with some room.
func TestAssumeAllSmall(t *testing.T) {
	r := rand.New(rand.NewSource(13))
	kinds := map[string]int{}
	for _, assume := range smallLists() {
		for range 100 {
			w := watch(t, r.Intn(8), r.Intn(12))
			for _, c := range cube(3) {
				switch r.Intn(12) {
				case 0, 1:
				case 2:
					w.add(c[:2])
				case 3:
					w.add(c[1+r.Intn(2):])
				default:
					w.add(c)
				}
			}
			if r.Intn(20) == 0 {
				w.add(nil)
			}
			for range 2 {
				a := w.solveWith(assume, r.Intn(2))
				kinds[fmt.Sprint(a.Status, a.Reason, len(a.Core))]++
			}
		}
	}
	for _, kind := range []string{"1 0 0", "2 0 0", "2 0 1", "2 0 2", "3 1 0", "3 2 0", "3 3 0"} {
		if kinds[kind] < 5 {
			t.Errorf("too few of a kind: %v", kinds)
		}
	}
}

func smallLists() [][]int {
	lists := [][]int{nil}
	for at := 0; len(lists[at]) < 3; at++ {
		for _, n := range []int{1, -1, 2, -2, 3, -3} {
			lists = append(lists, append(slices.Clone(lists[at]), n))
		}
	}
	return lists
}

// Any calls, one behind the other.
func TestAssumeAnyCalls(t *testing.T) {
	r := rand.New(rand.NewSource(14))
	kinds := map[string]int{}
	for range 800 {
		w := watch(t, r.Intn(1+r.Intn(200)), r.Intn(1+r.Intn(200)))
		if r.Intn(3) == 0 {
			w = spacious(t)
		}
		pool := somePool(r)
		for range 30 {
			switch r.Intn(12) {
			case 0:
				if r.Intn(10) == 0 {
					w.reset()
				}
			case 1:
				w.refused(append(someLiterals(r, r.Intn(20)), 0), -1, api.ErrLit)
				w.refused(someLiterals(r, r.Intn(21)), -1, api.ErrBudget)
			case 2, 3, 4, 5, 6, 7:
				a := w.solveWith(someLiterals(r, r.Intn(1+r.Intn(1+r.Intn(21)))), r.Intn(3)*r.Intn(3))
				kinds[fmt.Sprint(a.Status, a.Reason, min(len(a.Core), 3))]++
			default:
				w.addSome(r, pool)
			}
		}
	}
	for _, kind := range []string{"1 0 0", "2 0 0", "2 0 1", "2 0 2", "2 0 3", "3 1 0", "3 2 0", "3 3 0"} {
		if kinds[kind] < 50 {
			t.Errorf("too few of a kind: %v", kinds)
		}
	}
}

// Lines of one component are learnt with the assumptions of it alone.
func TestAssumeScattered(t *testing.T) {
	r := rand.New(rand.NewSource(15))
	learnt := 0
	for range 300 {
		w := spacious(t, scattered(r)...)
		for range 5 {
			w.solveWith(someLiterals(r, r.Intn(6)), 0)
		}
		learnt += w.want.Learnt
	}
	if learnt < 100 {
		t.Errorf("learnt: %d", learnt)
	}
}

// The same calls answer the same, whatever was called on another solver.
func TestAssumeDependsOnTheCallsAlone(t *testing.T) {
	r := rand.New(rand.NewSource(16))
	for range 50 {
		s := api.Settings{Held: r.Intn(100), Log: r.Intn(100)}
		x, _ := trail.New(s)
		y, _ := trail.New(s)
		for _, c := range append(someClauses(r, 6, 25), scattered(r)[:10]...) {
			x.Add(c)
			y.Add(c)
		}
		for range 6 {
			assume := someLiterals(r, r.Intn(5))
			a, _ := x.Solve(assume, 0)
			b, _ := y.Solve(assume, 0)
			if !reflect.DeepEqual(a, b) || x.Proof() != y.Proof() || x.Counts() != y.Counts() {
				t.Fatalf("P2: the same calls answer %+v and %+v, with the proofs %q and %q", a, b, x.Proof(), y.Proof())
			}
			overwrite(assume, a.Values, a.Core, a.Clause)
		}
	}
}
