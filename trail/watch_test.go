package trail_test

import (
	"fmt"
	"slices"
	"strconv"
	"strings"
	"testing"

	"trail/api"
	"trail/trail"
)

// watched is a solver, and what it must tell of itself by the calls on it and the lines that it wrote.
type watched struct {
	t        *testing.T
	x        *trail.Solver
	settings api.Settings
	taken    [][]int
	learnt   [][]int
	proof    string
	want     api.Counts
}

func watch(t *testing.T, held, log int, clauses ...[]int) *watched {
	t.Helper()
	s := api.Settings{Held: held, Log: log}
	x, err := trail.New(s)
	if err != api.OK {
		t.Fatalf("P5: New(%+v) = %d", s, err)
	}
	w := &watched{t: t, x: x, settings: s}
	w.add(clauses...)
	return w
}

// spacious has more room than any solver needs.
func spacious(t *testing.T, clauses ...[]int) *watched {
	t.Helper()
	return watch(t, api.MaxRoom, api.MaxRoom, clauses...)
}

func isTautology(clause []int) bool {
	for _, n := range clause {
		for _, m := range clause {
			if n == -m {
				return true
			}
		}
	}
	return false
}

func (w *watched) add(clauses ...[]int) {
	w.t.Helper()
	for _, c := range clauses {
		if err := w.x.Add(c); err != api.OK {
			w.t.Fatalf("P6: Add(%v) = %d", c, err)
		}
		if isTautology(c) {
			continue
		}
		w.taken = append(w.taken, c)
		w.want.Clauses++
		w.want.Lits += len(strings.Fields(setOf(c)))
	}
	w.want.Vars = len(w.seen())
	w.counts()
}

// seen has the variables that were seen, in rising order.
func (w *watched) seen() []int {
	var has [11]bool
	for _, c := range w.taken {
		for _, n := range c {
			has[max(n, -n)] = true
		}
	}
	var vars []int
	for v, there := range has {
		if there {
			vars = append(vars, v)
		}
	}
	return vars
}

func (w *watched) counts() {
	w.t.Helper()
	if got := w.x.Counts(); got != w.want {
		w.t.Fatalf("P7: over %v Counts = %+v, want %+v; the proof is %q", w.taken, got, w.want, w.proof)
	}
	if got := w.x.Proof(); got != w.proof {
		w.t.Fatalf("P7: over %v Proof = %q, want %q", w.taken, got, w.proof)
	}
}

func (w *watched) reset() {
	w.t.Helper()
	w.x.Reset()
	*w = watched{t: w.t, x: w.x, settings: w.settings}
	w.counts()
}

// refused is a Solve that must change nothing.
func (w *watched) refused(assume []int, budget int, want api.Errno) {
	w.t.Helper()
	a, err := w.x.Solve(assume, budget)
	if err != want {
		w.t.Errorf("P9: Solve(%v, %d) = %d, want %d", assume, budget, err, want)
	}
	if a.Status != 0 || a.Reason != 0 || a.Values != nil || a.Core != nil || a.Clause != nil {
		w.t.Errorf("P1: Solve(%v, %d) tells an error and %+v", assume, budget, a)
	}
	w.counts()
}

// solve is a Solve without assumptions that is held against P7 and P9 to P14.
func (w *watched) solve(budget int) api.Answer {
	w.t.Helper()
	a, err := w.x.Solve(nil, budget)
	if err != api.OK {
		w.t.Fatalf("P9: Solve(nil, %d) = %d", budget, err)
	}
	unsatBefore := w.want.Unsat
	learnt, ends := w.readLines()
	w.counts()
	switch a.Status {
	case api.Sat:
		w.judgeSat(a)
	case api.Unsat:
		w.judgeUnsat(a)
	case api.Unknown:
		w.judgeUnknown(a, learnt, budget, unsatBefore)
	default:
		w.t.Fatalf("P9: over %v: %+v", w.taken, a)
	}
	if (a.Status == api.Unsat) != (ends == 1) || ends > 1 {
		w.t.Fatalf("P11: over %v %d e lines with %+v", w.taken, ends, a)
	}
	if budget > 0 && learnt > budget {
		w.t.Fatalf("P13: over %v %d clauses were learnt with the budget %d", w.taken, learnt, budget)
	}
	return a
}

// readLines holds the lines that are new against P12, P13 and P15, and tells how many are a and e lines.
func (w *watched) readLines() (learnt, ends int) {
	w.t.Helper()
	proof := w.x.Proof()
	if !strings.HasPrefix(proof, w.proof) {
		w.t.Fatalf("P12: over %v the proof was %q, and is %q", w.taken, w.proof, proof)
	}
	for rest := proof[len(w.proof):]; rest != ""; {
		m := proofLine.FindStringSubmatch(rest)
		if m == nil {
			w.t.Fatalf("P12: over %v no line begins with %q", w.taken, rest)
		}
		rest = rest[len(m[0]):]
		var clause []int
		for _, f := range strings.Fields(m[2]) {
			n, _ := strconv.Atoi(f)
			clause = append(clause, n)
		}
		if ends > 0 {
			w.t.Fatalf("P11: over %v a line %q behind an e line", w.taken, m[0])
		}
		switch m[1] {
		case "a":
			if why := w.notLearnable(clause); why != "" {
				w.t.Fatalf("P12: over %v, with the proof %q, is learnt %v: %s", w.taken, proof, clause, why)
			}
			learnt++
			w.learnt = append(w.learnt, clause)
			w.want.Learnt++
			w.want.Held += len(clause)
		case "e":
			ends++
			w.want.Unsat++
			if why := w.notALine(clause); why != "" {
				w.t.Fatalf("P12: over %v the proof %q ends with %v: %s", w.taken, proof, clause, why)
			}
		default:
			w.t.Fatalf("P15: over %v with Reduce 0 a line %q", w.taken, m[0])
		}
		w.want.Log += len(clause) + 1
	}
	if w.want.Held > w.settings.Held || w.want.Log > w.settings.Log {
		w.t.Fatalf("P13: over %v, with %+v: %+v", w.taken, w.settings, w.want)
	}
	w.proof = proof
	return learnt, ends
}

func (w *watched) stands() [][]int {
	return append(append([][]int{}, w.taken...), w.learnt...)
}

// notALine tells why a clause can't stand in an a line, nor in an e line.
func (w *watched) notALine(clause []int) string {
	if len(strings.Fields(setOf(clause))) != len(clause) {
		return "a literal stands there twice"
	}
	if !pushes(w.stands(), clause) {
		return "it does not follow"
	}
	if len(clause) > 0 {
		there := w.component(max(clause[0], -clause[0]))
		for _, n := range clause {
			if !there[max(n, -n)] {
				return "it is of two components"
			}
		}
	}
	return ""
}

// notLearnable tells why a clause can't be learnt.
func (w *watched) notLearnable(clause []int) string {
	if why := w.notALine(clause); why != "" {
		return why
	}
	if isTautology(clause) {
		return "it is a tautology"
	}
	for _, c := range w.stands() {
		if setOf(c) == setOf(clause) {
			return "it is there already"
		}
	}
	return ""
}

// component goes from neighbour to neighbour; a variable that no clause has is in none.
func (w *watched) component(v int) map[int]bool {
	there := map[int]bool{}
	for _, c := range w.taken {
		for _, n := range c {
			if v == max(n, -n) {
				there[v] = true
			}
		}
	}
	for size := -1; size != len(there); {
		size = len(there)
		for _, c := range w.taken {
			for _, n := range c {
				for _, m := range c {
					if there[max(n, -n)] {
						there[max(m, -m)] = true
					}
				}
			}
		}
	}
	return there
}

// areSo tells whether each clause has one of the values.
func areSo(clauses [][]int, values []int) bool {
	for _, c := range clauses {
		so := false
		for _, n := range c {
			so = so || slices.Contains(values, n)
		}
		if !so {
			return false
		}
	}
	return true
}

// someWorld tells whether a world allows all clauses.
func someWorld(clauses [][]int) bool {
next:
	for world := range 1024 {
		for _, c := range clauses {
			allowed := false
			for _, n := range c {
				allowed = allowed || world>>(max(n, -n)-1)&1 == 1 == (n > 0)
			}
			if !allowed {
				continue next
			}
		}
		return true
	}
	return false
}

func (w *watched) judgeSat(a api.Answer) {
	w.t.Helper()
	if a.Reason != 0 || len(a.Core)+len(a.Clause) != 0 {
		w.t.Fatalf("P9: over %v Sat with more than values: %+v", w.taken, a)
	}
	var vars []int
	for _, n := range a.Values {
		vars = append(vars, max(n, -n))
	}
	if fmt.Sprint(vars) != fmt.Sprint(w.seen()) || !areSo(w.taken, a.Values) {
		w.t.Fatalf("P10: over %v the values %v", w.taken, a.Values)
	}
}

func (w *watched) judgeUnsat(a api.Answer) {
	w.t.Helper()
	if a.Reason != 0 || len(a.Values)+len(a.Clause) != 0 {
		w.t.Fatalf("P9: over %v Unsat with more than a core: %+v", w.taken, a)
	}
	if len(a.Core) != 0 || !strings.HasSuffix(w.proof, "e 0\n") {
		w.t.Fatalf("P11: over %v the core %v, the proof %q", w.taken, a.Core, w.proof)
	}
	if someWorld(w.taken) {
		w.t.Fatalf("P11: over %v Unsat", w.taken)
	}
	last, err, n := trail.Check(w.taken, w.proof)
	if len(last) != 0 || err != api.OK || n != strings.Count(w.proof, "\n") {
		w.t.Fatalf("P11: over %v Check of the proof %q = %v, %d, %d", w.taken, w.proof, last, err, n)
	}
}

func (w *watched) judgeUnknown(a api.Answer, learnt, budget, unsatBefore int) {
	w.t.Helper()
	if len(a.Values)+len(a.Core) != 0 || a.Reason == api.ByBudget && len(a.Clause) != 0 {
		w.t.Fatalf("P9: over %v Unknown with more than a reason and a clause: %+v", w.taken, a)
	}
	why := ""
	switch a.Reason {
	case api.ByBudget:
		if budget == 0 || learnt != budget {
			why = "the budget is not spent"
		}
	case api.ByHeld:
		why = w.notLearnable(a.Clause)
		if w.want.Held+len(a.Clause) <= w.settings.Held {
			why = "there is room"
		}
	case api.ByLog:
		why = w.notALine(a.Clause)
		if w.want.Log+len(a.Clause)+1 <= w.settings.Log {
			why = "there is room"
		}
	default:
		why = "no reason"
	}
	if why != "" {
		w.t.Fatalf("P13: over %v, with %+v, the budget %d and the proof %q: %+v: %s", w.taken, w.settings, budget, w.proof, a, why)
	}
	held, log := roomFor(w.want.Vars, unsatBefore)
	if budget == 0 && held <= w.settings.Held && log <= w.settings.Log {
		w.t.Fatalf("P14: over %v, with %+v and the proof %q: %+v", w.taken, w.settings, w.proof, a)
	}
}

// roomFor is the Held and the Log with which P14 promises an answer, behind some answers Unsat.
func roomFor(vars, unsat int) (held, log int) {
	power := 1
	for range vars {
		power *= 3
	}
	return vars * power, (vars+1)*power + (2*vars+1)*(unsat+1)
}
