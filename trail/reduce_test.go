package trail_test

import (
	"fmt"
	"math"
	"math/rand"
	"reflect"
	"slices"
	"strings"
	"testing"

	"trail/api"
	"trail/trail"
)

// far has clauses that no world allows, and variables ahead of these whose values do not matter: each of their worlds is gone through, because a solver that decides them first is late to see it.
func far(ahead int) [][]int {
	return append(moved(cube(3), ahead), upTo(ahead+1))
}

// farSat has worlds, but none with the variable 1.
var farSat = append(withLiteral(moved(cube(3), 6), -1), upTo(7))

// farLater is as far, but what is learnt has more literals later: with 1 others are known, and need not be decided.
var farLater = append(far(7), []int{-1, 2}, []int{-1, 3}, []int{-1, 4}, []int{-1, 5})

// renamed has other names for the variables, and other signs.
func renamed(r *rand.Rand, clauses [][]int) [][]int {
	names := r.Perm(10)
	signs := r.Perm(1024)[0]
	var l [][]int
	for _, c := range clauses {
		var m []int
		for _, n := range c {
			v := names[max(n, -n)-1]
			m = append(m, (v+1)*(1-signs>>v&1*2)*(n/max(n, -n)))
		}
		l = append(l, m)
	}
	return l
}

// reduced has more room than any solver needs, but not for learnt clauses.
func reduced(t *testing.T, reduce int, clauses ...[]int) *watched {
	t.Helper()
	return watchSettings(t, api.Settings{Reduce: reduce, Held: api.MaxRoom, Log: api.MaxRoom}, clauses...)
}

// letters has the first letters of the lines of a proof.
func letters(proof string) string {
	var l []byte
	for _, line := range strings.Split(strings.TrimSuffix(proof, "\n"), "\n") {
		if line != "" {
			l = append(l, line[0])
		}
	}
	return string(l)
}

func (w *watched) letters() string { return letters(w.proof) }

func TestReduceNone(t *testing.T) {
	for ahead := range 8 {
		w := spacious(t, far(ahead)...)
		w.status(0, api.Unsat, 0)
		if strings.Contains(w.proof, "d") || w.want.Learnt != strings.Count(w.proof, "a") {
			t.Errorf("P15: Reduce 0: %+v, %q", w.want, w.proof)
		}
		if ahead == 7 && w.want.Learnt < 400 {
			t.Errorf("too few were learnt: %+v", w.want)
		}
	}
}

// The clauses over which the search is longest, with much to drop.
func TestReduceEnds(t *testing.T) {
	r := rand.New(rand.NewSource(21))
	for _, reduce := range []int{12, 13, 20, 63, 64} {
		for ahead := range 8 {
			w := reduced(t, reduce, far(ahead)...)
			w.status(0, api.Unsat, 0)
			w.status(0, api.Unsat, 0)
			if ahead == 7 && len(w.dropped) < 300 {
				t.Errorf("P15: Reduce %d: too few were dropped: %+v", reduce, w.want)
			}
		}
		for range 10 {
			w := reduced(t, reduce, renamed(r, append(far(7), []int{1, -9}, []int{2, 3, 10}))...)
			w.status(0, api.Unsat, 0)
		}
	}
	for range 30 {
		w := reduced(t, 12, renamed(r, parities(r))...)
		for _, assume := range [][]int{someLiterals(r, 3), someLiterals(r, 2), someLiterals(r, 1), nil} {
			if a := w.solveWith(assume, 0); a.Status == api.Unknown {
				t.Errorf("over %v with %v, with room for all: %+v", w.taken, assume, a)
			}
		}
	}
}

// parities has four lists of four of eight variables, each in two of them, and of each list whether it is odd.
func parities(r *rand.Rand) [][]int {
	var l [][]int
	for _, vars := range [][]int{{1, 2, 3, 7}, {1, 4, 5, 8}, {2, 4, 6, 7}, {3, 5, 6, 8}} {
		l = append(l, odds(vars, r.Intn(2) == 0)...)
	}
	return l
}

// With as many clauses as Reduce none is dropped; with one more, one is, and ahead of it.
func TestReduceJustAsMany(t *testing.T) {
	for _, reduce := range []int{12, 13, 40, 63, 64} {
		w := reduced(t, reduce, far(7)...)
		w.status(reduce-1, api.Unknown, api.ByBudget)
		w.status(1, api.Unknown, api.ByBudget)
		if w.letters() != strings.Repeat("a", reduce) || w.want.Learnt != reduce {
			t.Errorf("P15: Reduce %d: %+v, %q", reduce, w.want, w.proof)
		}
		w.status(1, api.Unknown, api.ByBudget)
		w.status(2, api.Unknown, api.ByBudget)
		if w.letters() != strings.Repeat("a", reduce)+"dadada" || w.want.Learnt != reduce {
			t.Errorf("P15: Reduce %d: %+v, %q", reduce, w.want, w.proof)
		}
		w.status(0, api.Unsat, 0)
		w.reset()
		w.add(far(7)...)
		w.status(reduce+1, api.Unknown, api.ByBudget)
		if w.letters() != strings.Repeat("a", reduce)+"da" || w.want.Learnt != reduce {
			t.Errorf("P15: Reduce %d: %+v, %q", reduce, w.want, w.proof)
		}
	}
}

// Solvers that come to an answer with just as many clauses as Reduce, with one more, and with two.
func TestReduceAtTheEdge(t *testing.T) {
	r := rand.New(rand.NewSource(22))
	edges := 0
	for range 300 {
		clauses := renamed(r, append(far(r.Intn(5)), someClauses(r, 10, r.Intn(5))...))
		w := spacious(t, clauses...)
		w.solve(0)
		learnt := w.want.Learnt
		for less := range 3 {
			reduce := learnt - less
			if reduce < 12 || reduce > 64 {
				continue
			}
			edges++
			y := reduced(t, reduce, clauses...)
			y.solve(0)
			if len(y.dropped) != less || less == 0 && y.proof != w.proof {
				t.Errorf("P15: over %v, of %d clauses and with Reduce %d, the proof %q", clauses, learnt, reduce, y.proof)
			}
		}
	}
	if edges < 100 {
		t.Errorf("too few at the edge: %d", edges)
	}
}

// What is dropped is no reason for another answer.
func TestReduceAnswersAsWithout(t *testing.T) {
	r := rand.New(rand.NewSource(23))
	var kinds [4]int
	dropped := 0
	for i := range 400 {
		clauses := [][][]int{parities(r), someClauses(r, 10, 48), far(4 + r.Intn(4)), scattered(r)}[i%4]
		if i%4 < 3 {
			clauses = renamed(r, clauses)
		}
		// Without some of them there are worlds.
		clauses = clauses[:len(clauses)-r.Intn(3)]
		w := reduced(t, []int{12, 12, 13, 20, 64}[r.Intn(5)], clauses...)
		y := spacious(t, clauses...)
		for range 5 {
			assume := someLiterals(r, r.Intn(4))
			a, b := w.solveWith(assume, 0), y.solveWith(assume, 0)
			if a.Status != b.Status || !slices.Equal(a.Values, b.Values) {
				t.Fatalf("P15: over %v with %v: Reduce %d %+v, Reduce 0 %+v", clauses, assume, w.settings.Reduce, a, b)
			}
			kinds[a.Status]++
		}
		dropped += len(w.dropped)
	}
	if kinds[api.Sat] < 200 || kinds[api.Unsat] < 200 || kinds[api.Unknown] > 0 || dropped < 1000 {
		t.Errorf("too few of a kind: %v, %d dropped", kinds, dropped)
	}
}

// Small budgets again and again come to the same as one Solve: what a later one needs is not dropped.
func TestReduceBudget(t *testing.T) {
	r := rand.New(rand.NewSource(24))
	late := append(moved(cube(3)[1:], 2), []int{1, 2, 3})
	for i, clauses := range [][][]int{
		far(5), far(6), parities(r), renamed(r, far(5)), renamed(r, parities(r)), scattered(r),
		// Two components, which both need what they learnt.
		append(slices.Clone(late), moved(far(2), 5)...),
		append(far(2), moved(late, 5)...),
		append(moved(late, 5), moved(cube(4), 0)...),
	} {
		for _, assume := range [][]int{nil, {10}, {-4, 9}} {
			whole := reduced(t, 12, clauses...)
			want := whole.solveWith(assume, 0)
			for _, budget := range []int{1, 2, 3, 7, 12, 13} {
				w := reduced(t, 12, clauses...)
				a := w.solveWith(assume, budget)
				for rounds := 1; a.Status == api.Unknown; rounds++ {
					if a.Reason != api.ByBudget || rounds*budget > strings.Count(whole.proof, "a") {
						t.Fatalf("P13: list %d, with %v: the budget %d again and again: %+v", i, assume, budget, a)
					}
					a = w.solveWith(assume, budget)
				}
				if !reflect.DeepEqual(a, want) || w.proof != whole.proof {
					t.Errorf("P13: list %d, with %v: the budget %d again and again %+v, at once %+v", i, assume, budget, a, want)
				}
			}
		}
	}
}

// With the budget 1 and other assumptions each time every Solve ends, and all counts hold.
func TestReduceBudgetInTurn(t *testing.T) {
	for _, reduce := range []int{12, 64} {
		w := reduced(t, reduce, far(7)...)
		for i := range 200 {
			v := 1 + i%7
			w.solveWith([]int{v * (1 - i/7%2*2), -1 - (i+3)%7}, 1)
		}
		if w.want.Learnt != reduce || len(w.dropped) == 0 {
			t.Errorf("P15: Reduce %d: %+v", reduce, w.want)
		}
		w.status(0, api.Unsat, 0)
	}
}

func TestReduceBudgetJustEnough(t *testing.T) {
	for _, reduce := range []int{12, 64} {
		w := reduced(t, reduce, far(6)...)
		w.status(0, api.Unsat, 0)
		need := strings.Count(w.proof, "a")
		if len(w.dropped) == 0 {
			t.Fatalf("nothing was dropped: %q", w.proof)
		}
		reduced(t, reduce, far(6)...).status(need, api.Unsat, 0)
		less := reduced(t, reduce, far(6)...)
		less.status(need-1, api.Unknown, api.ByBudget)
		// Ahead of ByBudget nothing is dropped for a clause that is not learnt.
		if !strings.HasSuffix(less.letters(), "da") {
			t.Errorf("P13: %q", less.proof)
		}
		for _, budget := range []int{1 << 32, math.MaxInt} {
			reduced(t, reduce, far(6)...).status(budget, api.Unsat, 0)
		}
	}
}

func TestReduceHeld(t *testing.T) {
	for _, reduce := range []int{12, 15, 64} {
		clauses := far(6)
		w := reduced(t, reduce, clauses...)
		w.status(0, api.Unsat, 0)
		for held := range w.mostHeld {
			less := watchSettings(t, api.Settings{Reduce: reduce, Held: held, Log: api.MaxRoom}, clauses...)
			less.stays(api.ByHeld)
			// What needs no learning is answered.
			if a := less.solveWith([]int{3, -3}, 0); a.Status != api.Unsat {
				t.Errorf("P13: with %+v: %+v", less.settings, a)
			}
		}
		enough := watchSettings(t, api.Settings{Reduce: reduce, Held: w.mostHeld, Log: api.MaxRoom}, clauses...)
		enough.status(0, api.Unsat, 0)
		if enough.proof != w.proof || len(enough.dropped) == 0 {
			t.Errorf("P13: with %+v, which is just enough, %q", enough.settings, enough.proof)
		}
	}
}

// stays is a Solve that must answer Unknown by this reason, and again the same.
func (w *watched) stays(reason int) api.Answer {
	w.t.Helper()
	a := w.status(0, api.Unknown, reason)
	proof := w.proof
	for range 2 {
		if again := w.status(0, api.Unknown, reason); !reflect.DeepEqual(a, again) || w.proof != proof {
			w.t.Errorf("P13: with %+v first %+v, then %+v; the proof was %q, and is %q", w.settings, a, again, proof, w.proof)
		}
	}
	return a
}

// What is dropped makes room: Held is just great enough, and then one too small, behind d lines.
func TestReduceHeldBehindDrops(t *testing.T) {
	r := rand.New(rand.NewSource(29))
	late := 0
	for range 30 {
		clauses := slices.Concat(farLater, someClauses(r, 10, r.Intn(4)))
		w := reduced(t, 12, clauses...)
		a := w.solve(0)
		room := api.Settings{Reduce: 12, Held: w.mostHeld, Log: api.MaxRoom}
		enough := watchSettings(t, room, clauses...)
		if b := enough.solve(0); !reflect.DeepEqual(a, b) || enough.proof != w.proof {
			t.Errorf("P13: with %+v, which is just enough: %+v", room, b)
		}
		if w.mostHeld == 0 {
			continue
		}
		room.Held--
		less := watchSettings(t, room, clauses...)
		less.stays(api.ByHeld)
		if len(less.dropped) > 0 {
			late++
		}
	}
	if late < 10 {
		t.Errorf("too few behind d lines: %d", late)
	}
}

func TestReduceLog(t *testing.T) {
	for _, reduce := range []int{12, 20} {
		clauses := far(3)
		w := reduced(t, reduce, clauses...)
		w.status(0, api.Unsat, 0)
		need := w.want.Log
		room := api.Settings{Reduce: reduce, Held: api.MaxRoom}
		wanting := map[string]bool{}
		for log := range need {
			room.Log = log
			less := watchSettings(t, room, clauses...)
			a := less.stays(api.ByLog)
			// The line that is wanting is the next one of the whole proof.
			rest, found := strings.CutPrefix(w.proof, less.proof)
			next, _, _ := strings.Cut(rest, "\n")
			if !found || setOf(a.Clause) != setOf(numbers(next)) {
				t.Errorf("P13: with %+v: %+v, the next line is %q", room, a, next)
			}
			wanting[letters(next)] = true
		}
		if len(wanting) != 3 {
			t.Errorf("not every letter is wanting: %v, %q", wanting, w.proof)
		}
		room.Log = need
		enough := watchSettings(t, room, clauses...)
		enough.status(0, api.Unsat, 0)
		enough.status(0, api.Unknown, api.ByLog)
	}
}

// numbers has the literals of a line.
func numbers(line string) []int {
	var l []int
	for _, f := range strings.Fields(line)[1:] {
		var n int
		fmt.Sscan(f, &n)
		if n != 0 {
			l = append(l, n)
		}
	}
	return l
}

// Neither clause nor line is there for Log 0 and Held 0 with any Reduce.
func TestReduceNoRoom(t *testing.T) {
	for _, reduce := range []int{12, 64} {
		w := watchSettings(t, api.Settings{Reduce: reduce, Log: 100}, far(2)...)
		w.status(0, api.Unknown, api.ByHeld)
		w = watchSettings(t, api.Settings{Reduce: reduce, Held: 100}, far(2)...)
		w.status(0, api.Unknown, api.ByLog)
		w = watchSettings(t, api.Settings{Reduce: reduce}, nil)
		w.status(0, api.Unknown, api.ByLog)
		w = watchSettings(t, api.Settings{Reduce: reduce}, chain...)
		w.status(0, api.Sat, 0)
		w.sat([]int{1, -9}, 1, 2, 3, 4, -9)
		w.unknown([]int{1, -4}, 0, api.ByLog)
	}
}

// Clauses that were learnt are taken behind that: one of two goes, the other stays.
func TestReduceTwins(t *testing.T) {
	for _, reduce := range []int{12, 13} {
		w := reduced(t, reduce, far(6)...)
		w.status(reduce, api.Unknown, api.ByBudget)
		twins := slices.Clone(w.learnt)
		w.add(twins...)
		w.status(1, api.Unknown, api.ByBudget)
		if w.twins != 1 || w.want.Clauses != len(far(6))+reduce {
			t.Fatalf("P15: of clauses that were taken too %d are dropped: %+v, %q", w.twins, w.want, w.proof)
		}
		w.status(30, api.Unknown, api.ByBudget)
		// What was taken still holds, though its twin is gone.
		for _, c := range twins {
			proof := w.proof
			a := w.solveWith(opposites(c), 0)
			if a.Status != api.Unsat || strings.Contains(w.proof[len(proof):], "a") {
				t.Errorf("P15: %v was taken, and its opposites: %+v", c, a)
			}
		}
		w.status(0, api.Unsat, 0)
		if w.want.Clauses != len(far(6))+reduce || w.twins < 2 {
			t.Errorf("P15: %+v, %d twins", w.want, w.twins)
		}
	}
}

// The same clause is dropped and learnt, again and again.
func TestReduceLearnsAgain(t *testing.T) {
	r := rand.New(rand.NewSource(25))
	w := reduced(t, 12, append(withLiteral(far(5), 10), withLiteral(far(5), -10)...)...)
	for i := range 200 {
		w.solveWith(append(someLiterals(r, 2), 10*(1-i%2*2)), 1+r.Intn(5))
	}
	if w.again < 10 {
		t.Errorf("too few were learnt again: %d, of %d that were dropped", w.again, len(w.dropped))
	}
	w.status(0, api.Unsat, 0)
}

func TestReduceRefused(t *testing.T) {
	for _, reduce := range []int{12, 64} {
		w := reduced(t, reduce, far(7)...)
		for range 3 {
			for _, n := range []int{0, 11, -11, math.MinInt, math.MaxInt} {
				w.refused([]int{9, n}, 0, api.ErrLit)
				w.refused(append(many(9, 19), n), -1, api.ErrLit)
				w.refused(append(many(9, 20), n), -1, api.ErrLong)
			}
			w.refused(many(9, 21), 0, api.ErrLong)
			w.refused(nil, -1, api.ErrBudget)
			w.refused(many(9, 20), math.MinInt, api.ErrBudget)
			w.status(reduce, api.Unknown, api.ByBudget)
		}
		w.status(0, api.Unsat, 0)
		w.refused([]int{10, 0}, 0, api.ErrLit)
	}
	// What was refused is not seen, what was not refused is.
	w := reduced(t, 12)
	w.refused([]int{3, 0}, 0, api.ErrLit)
	w.sat([]int{3, -10}, 3, -10)
	if w.want.Vars != 2 {
		t.Errorf("P7: %+v", w.want)
	}
}

func TestReduceExamples(t *testing.T) {
	for _, reduce := range []int{12, 64} {
		w := reduced(t, reduce, chain[:2]...)
		w.unsat([]int{1, 4, -3}, 1, -3)
		w = reduced(t, reduce)
		w.sat([]int{5}, 5)
		w.unsat([]int{5, -5}, 5, -5)
		w.sat([]int{-5, -5}, -5)
		w = reduced(t, reduce, signs...)
		w.status(0, api.Unsat, 0)
		w = reduced(t, reduce, nil)
		w.unsat([]int{7})
	}
}

// Behind each answer come all others, with other assumptions or none, in solvers with as many learnt clauses as may be.
func TestReduceAgain(t *testing.T) {
	solves := []struct {
		assume []int
		budget int
	}{{nil, 0}, {nil, 1}, {[]int{-10, 1}, 0}, {[]int{1, -10, -2}, 3}, {[]int{-2, -4, -10}, 13}, {[]int{6, -6}, 0}, {[]int{10}, 0}, {[]int{10, -3}, 1}}
	// With 10 there are worlds, without it there are none.
	clauses := append(withLiteral(far(6), 10), []int{-10, 1, 7})
	kinds := map[string]int{}
	for _, first := range solves {
		for _, second := range solves {
			for _, room := range []api.Settings{{Reduce: 12, Held: 100000, Log: 100000}, {Reduce: 12, Held: 40, Log: 100000}, {Reduce: 13, Held: 100000, Log: 300}} {
				w := watchSettings(t, room, clauses...)
				w.solveWith([]int{-10, 3}, 16)
				w.solveWith(first.assume, first.budget)
				w.solveWith(second.assume, second.budget)
				a := w.solveWith(first.assume, 0)
				kinds[fmt.Sprint(a.Status, a.Reason)]++
				w.add([]int{-10, -1})
				w.solveWith(second.assume, 5)
			}
		}
	}
	if len(kinds) != 4 {
		t.Errorf("not of every kind: %v", kinds)
	}
}

// Clauses that are taken later make one component of two.
func TestReduceAddBehind(t *testing.T) {
	w := reduced(t, 12, append(far(1), moved(far(2)[1:], 4)...)...)
	for i, c := range [][]int{{1, 5}, {10, -1}, {-5, 10, 2}, {-10, 3}, {4, 9, -8}} {
		w.solveWith([]int{5, -6}, 3+i)
		w.solveWith([]int{-5, -6}, 3+i)
		w.add(c)
		w.solveWith([]int{6, -9}, 20)
	}
	w.status(0, api.Unsat, 0)
	w = reduced(t, 12, farSat...)
	w.status(0, api.Sat, 0)
	if len(w.dropped) < 50 {
		t.Errorf("too few were dropped: %+v", w.want)
	}
	w.add([]int{-2, 1})
	w.status(0, api.Sat, 0)
	w.add([]int{2})
	w.status(0, api.Unsat, 0)
	w.add(nil)
	w.unsat([]int{1, -2})
}

// One component's clauses are dropped for those of another, and none crosses over.
func TestReduceComponents(t *testing.T) {
	r := rand.New(rand.NewSource(26))
	dropped := 0
	for range 200 {
		clauses := append(partly(r, far(2)), moved(partly(r, far(2)), 5)...)
		if r.Intn(2) == 0 {
			clauses = append(partly(r, far(1)), moved(partly(r, far(3)), 4)...)
		}
		w := reduced(t, 12, renamed(r, clauses)...)
		for range 12 {
			w.solveWith(someLiterals(r, r.Intn(4)), r.Intn(2)*r.Intn(6))
		}
		dropped += len(w.dropped)
	}
	if dropped < 100 {
		t.Errorf("dropped: %d", dropped)
	}
}

// partly may leave one of the clauses out.
func partly(r *rand.Rand, clauses [][]int) [][]int {
	if r.Intn(2) == 0 {
		return clauses
	}
	at := r.Intn(len(clauses))
	return slices.Delete(clauses, at, at+1)
}

func TestReduceReset(t *testing.T) {
	calls := func(w *watched) []api.Answer {
		w.add(far(6)...)
		return []api.Answer{w.solveWith([]int{5, 9}, 13), w.solveWith([]int{5, 9}, 0), w.solveWith([]int{-9, 10}, 20), w.solveWith([]int{4, -4}, 0), w.solve(0)}
	}
	for _, room := range [][2]int{{5000, 5000}, {75, 5000}, {5000, 200}, {0, 0}} {
		w := watchSettings(t, api.Settings{Reduce: 12, Held: room[0], Log: room[1]})
		want := calls(w)
		proof := w.proof
		if strings.Contains(proof, "d") == (room[0] == 0) {
			t.Errorf("with %v the proof is %q", room, proof)
		}
		w.reset()
		w.sat(nil)
		w.reset()
		got := calls(w)
		if !reflect.DeepEqual(got, want) || w.proof != proof {
			t.Errorf("P2, P7: behind Reset %+v, %q; of a fresh solver %+v, %q", got, w.proof, want, proof)
		}
	}
}

// The same calls answer the same, whatever is written into what came out.
func TestReduceDependsOnTheCallsAlone(t *testing.T) {
	r := rand.New(rand.NewSource(27))
	dropped := 0
	for range 60 {
		s := api.Settings{Reduce: 12 + r.Intn(5), Held: 50 + r.Intn(100), Log: 100 + r.Intn(1000)}
		x, _ := trail.New(s)
		y, _ := trail.New(s)
		for _, c := range renamed(r, append(far(6), someClauses(r, 10, r.Intn(10))...)) {
			x.Add(c)
			y.Add(c)
		}
		for range 8 {
			assume := someLiterals(r, r.Intn(4))
			budget := r.Intn(2) * r.Intn(20)
			a, _ := x.Solve(assume, budget)
			b, _ := y.Solve(slices.Clone(assume), budget)
			if !reflect.DeepEqual(a, b) || x.Proof() != y.Proof() || x.Counts() != y.Counts() {
				t.Fatalf("P2: the same calls answer %+v and %+v, with the proofs %q and %q", a, b, x.Proof(), y.Proof())
			}
			overwrite(assume, a.Values, a.Core, a.Clause)
		}
		dropped += strings.Count(x.Proof(), "d")
	}
	if dropped < 100 {
		t.Errorf("dropped: %d", dropped)
	}
}

// guarded has clauses that are hard to refute with some assumptions, and easily so without one of them: these come with it.
func guarded(r *rand.Rand) (clauses [][]int, guards []int) {
	n := r.Intn(5)
	if n == 4 {
		return farLater, nil
	}
	clauses = far(7 - n)
	for v := 10; v > 10-n; v-- {
		clauses = withLiteral(clauses, v)
		guards = append(guards, -v)
	}
	return clauses, guards
}

// someSettings has little room of one kind, or of none.
func someSettings(r *rand.Rand) api.Settings {
	s := api.Settings{Reduce: []int{12, 12, 12, 13, 64}[r.Intn(5)], Held: api.MaxRoom, Log: api.MaxRoom}
	switch r.Intn(4) {
	case 0:
		s.Held = r.Intn(80)
	case 1:
		s.Held = 35 + r.Intn(10)
	case 2:
		s.Log = r.Intn(1000)
	}
	return s
}

// tally is what was seen in the course of many calls.
type tally struct {
	kinds                 map[string]int
	dropped, again, twins int
}

func (c *tally) count(w *watched) {
	c.dropped += len(w.dropped)
	c.again += w.again
	c.twins += w.twins
}

// anyCall is one of all calls, with some of the guards among the assumptions.
func (c *tally) anyCall(r *rand.Rand, w *watched, pool [][]int, guards []int) {
	w.t.Helper()
	switch r.Intn(12) {
	case 0:
		if r.Intn(10) == 0 {
			c.count(w)
			w.reset()
		}
	case 1:
		w.refused(append(someLiterals(r, r.Intn(20)), 0), -1, api.ErrLit)
		w.refused(someLiterals(r, r.Intn(21)), -1, api.ErrBudget)
	case 2:
		w.addSome(r, pool)
	case 3:
		if len(w.learnt) > 0 {
			w.addSome(r, slices.Clone(w.learnt))
		}
	default:
		assume := someLiterals(r, r.Intn(1+r.Intn(4)))
		if r.Intn(4) > 0 {
			assume = slices.Concat(assume, guards, assume)
		}
		a := w.solveWith(assume, r.Intn(3)*r.Intn(10))
		c.kinds[fmt.Sprint(a.Status, a.Reason, min(len(a.Core), 3), len(w.dropped) > 0)]++
	}
}

// Any calls, one behind the other.
func TestReduceAnyCalls(t *testing.T) {
	r := rand.New(rand.NewSource(28))
	c := tally{kinds: map[string]int{}}
	for range 400 {
		w := watchSettings(t, someSettings(r))
		pool, guards := guarded(r)
		w.add(pool...)
		pool = slices.Concat(pool, somePool(r))
		for range 30 {
			c.anyCall(r, w, pool, guards)
		}
		c.count(w)
	}
	for _, kind := range []string{"1 0 0", "2 0 0", "2 0 1", "2 0 2", "2 0 3", "3 1 0", "3 2 0", "3 3 0"} {
		if c.kinds[kind+" true"] < 5 {
			t.Errorf("too few of the kind %s: %v", kind, c.kinds)
		}
	}
	if c.dropped < 1000 || c.again < 20 || c.twins < 20 {
		t.Errorf("too few: %d dropped, %d learnt again, %d twins", c.dropped, c.again, c.twins)
	}
}
