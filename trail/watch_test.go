package trail_test

import (
	"slices"
	"strconv"
	"strings"
	"testing"

	"trail/api"
	"trail/trail"
)

// watched is a solver, and what it must tell of itself by the calls on it and the lines that it wrote.
type watched struct {
	t        *testing.T
	x        *trail.Solver
	settings api.Settings
	taken    [][]int
	assumed  []int
	learnt   [][]int
	proof    string
	want     api.Counts
	// mostHeld is the greatest number of literals that learnt clauses had together so far.
	mostHeld int
	// dropped has what was dropped so far, as sets; of these twins were taken too, and again is how often one was learnt again.
	dropped []string
	twins   int
	again   int
}

func watch(t *testing.T, held, log int, clauses ...[]int) *watched {
	t.Helper()
	return watchSettings(t, api.Settings{Held: held, Log: log}, clauses...)
}

func watchSettings(t *testing.T, s api.Settings, clauses ...[]int) *watched {
	t.Helper()
	x, err := trail.New(s)
	if err != api.OK {
		t.Fatalf("P5: New(%+v) = %d", s, err)
	}
	w := &watched{t: t, x: x, settings: s}
	w.add(clauses...)
	return w
}

// spacious has more room than any solver needs.
func spacious(t *testing.T, clauses ...[]int) *watched {
	t.Helper()
	return watch(t, api.MaxRoom, api.MaxRoom, clauses...)
}

func isTautology(clause []int) bool {
	for _, n := range clause {
		for _, m := range clause {
			if n == -m {
				return true
			}
		}
	}
	return false
}

func (w *watched) add(clauses ...[]int) {
	w.t.Helper()
	for _, c := range clauses {
		if err := w.x.Add(c); err != api.OK {
			w.t.Fatalf("P6: Add(%v) = %d", c, err)
		}
		if isTautology(c) {
			continue
		}
		w.taken = append(w.taken, c)
		w.want.Clauses++
		w.want.Lits += len(strings.Fields(setOf(c)))
	}
	w.want.Vars = len(w.seen())
	w.counts()
}

// seen has the variables that were seen, in rising order.
func (w *watched) seen() []int {
	var has [11]bool
	for _, c := range append(w.taken[:len(w.taken):len(w.taken)], w.assumed) {
		for _, n := range c {
			has[max(n, -n)] = true
		}
	}
	var vars []int
	for v, there := range has {
		if there {
			vars = append(vars, v)
		}
	}
	return vars
}

func (w *watched) counts() {
	w.t.Helper()
	if got := w.x.Counts(); got != w.want {
		w.t.Fatalf("P7: over %v Counts = %+v, want %+v; the proof is %q", w.taken, got, w.want, w.proof)
	}
	if got := w.x.Proof(); got != w.proof {
		w.t.Fatalf("P7: over %v Proof = %q, want %q", w.taken, got, w.proof)
	}
}

func (w *watched) reset() {
	w.t.Helper()
	w.x.Reset()
	*w = watched{t: w.t, x: w.x, settings: w.settings}
	w.counts()
}

// refused is a Solve that must change nothing.
func (w *watched) refused(assume []int, budget int, want api.Errno) {
	w.t.Helper()
	a, err := w.x.Solve(assume, budget)
	if err != want {
		w.t.Errorf("P9: Solve(%v, %d) = %d, want %d", assume, budget, err, want)
	}
	if a.Status != 0 || a.Reason != 0 || a.Values != nil || a.Core != nil || a.Clause != nil {
		w.t.Errorf("P1: Solve(%v, %d) tells an error and %+v", assume, budget, a)
	}
	w.counts()
}

// solve is a Solve without assumptions.
func (w *watched) solve(budget int) api.Answer {
	w.t.Helper()
	return w.solveWith(nil, budget)
}

// call is a Solve with lists that are overwritten behind it, by which nothing may be changed (P2).
func (w *watched) call(assume []int, budget int) api.Answer {
	w.t.Helper()
	behind := append(slices.Clone(assume), 98, 99)
	got, err := w.x.Solve(behind[:len(assume)], budget)
	if err != api.OK {
		w.t.Fatalf("P9: Solve(%v, %d) = %d", assume, budget, err)
	}
	if !slices.Equal(behind, append(slices.Clone(assume), 98, 99)) {
		w.t.Fatalf("P2: the assumptions %v read %v behind Solve", assume, behind)
	}
	a := got
	a.Values, a.Core, a.Clause = slices.Clone(got.Values), slices.Clone(got.Core), slices.Clone(got.Clause)
	overwrite(behind, got.Values, got.Core, got.Clause)
	return a
}

// solveWith is a Solve that is held against P7 and P9 to P15.
func (w *watched) solveWith(assume []int, budget int) api.Answer {
	w.t.Helper()
	a := w.call(assume, budget)
	w.assumed = append(w.assumed, assume...)
	w.want.Vars = len(w.seen())
	unsatBefore := w.want.Unsat
	learnt, ends := w.readLines()
	w.counts()
	switch a.Status {
	case api.Sat:
		w.judgeSat(a, assume)
	case api.Unsat:
		w.judgeUnsat(a, assume)
	case api.Unknown:
		w.judgeUnknown(a, assume, learnt, budget, unsatBefore)
	default:
		w.t.Fatalf("P9: over %v with %v: %+v", w.taken, assume, a)
	}
	if (a.Status == api.Unsat) != (ends == 1) || ends > 1 {
		w.t.Fatalf("P11: over %v with %v %d e lines with %+v", w.taken, assume, ends, a)
	}
	if budget > 0 && learnt > budget {
		w.t.Fatalf("P13: over %v with %v %d clauses were learnt with the budget %d", w.taken, assume, learnt, budget)
	}
	return a
}

// readLines holds the lines that are new against P12, P13 and P15, and tells how many are a and e lines.
func (w *watched) readLines() (learnt, ends int) {
	w.t.Helper()
	proof := w.x.Proof()
	if !strings.HasPrefix(proof, w.proof) {
		w.t.Fatalf("P12: over %v the proof was %q, and is %q", w.taken, w.proof, proof)
	}
	for rest := proof[len(w.proof):]; rest != ""; {
		m := proofLine.FindStringSubmatch(rest)
		if m == nil {
			w.t.Fatalf("P12: over %v no line begins with %q", w.taken, rest)
		}
		rest = rest[len(m[0]):]
		var clause []int
		for _, f := range strings.Fields(m[2]) {
			n, _ := strconv.Atoi(f)
			clause = append(clause, n)
		}
		if ends > 0 {
			w.t.Fatalf("P11: over %v a line %q behind an e line", w.taken, m[0])
		}
		switch m[1] {
		case "a":
			learnt++
			w.learns(clause, proof)
		case "d":
			w.drops(clause, proof)
		case "e":
			ends++
			w.ends(clause, proof)
		}
		w.want.Log += len(clause) + 1
		if w.want.Held > w.settings.Held || w.want.Log > w.settings.Log {
			w.t.Fatalf("P13: over %v, with %+v and the proof %q: at %q %+v", w.taken, w.settings, proof, m[0], w.want)
		}
	}
	w.proof = proof
	return learnt, ends
}

func (w *watched) learns(clause []int, proof string) {
	w.t.Helper()
	if why := w.notLearnable(clause); why != "" {
		w.t.Fatalf("P12, P15: over %v, with %+v and the proof %q, is learnt %v: %s", w.taken, w.settings, proof, clause, why)
	}
	if slices.Contains(w.dropped, setOf(clause)) {
		w.again++
	}
	w.learnt = append(w.learnt, clause)
	w.want.Learnt++
	w.want.Held += len(clause)
	w.mostHeld = max(w.mostHeld, w.want.Held)
}

func (w *watched) drops(clause []int, proof string) {
	w.t.Helper()
	if why := w.notDroppable(clause); why != "" {
		w.t.Fatalf("P15: over %v, with %+v and the proof %q, is dropped %v: %s", w.taken, w.settings, proof, clause, why)
	}
	w.learnt = slices.Delete(w.learnt, indexOf(w.learnt, clause), indexOf(w.learnt, clause)+1)
	w.dropped = append(w.dropped, setOf(clause))
	if indexOf(w.taken, clause) >= 0 {
		w.twins++
	}
	w.want.Learnt--
	w.want.Held -= len(clause)
}

func (w *watched) ends(clause []int, proof string) {
	w.t.Helper()
	if why := w.notAnEnd(clause); why != "" {
		w.t.Fatalf("P12: over %v the proof %q ends with %v: %s", w.taken, proof, clause, why)
	}
	w.want.Unsat++
}

// indexOf is the place of the first of the clauses with just these literals, or below 0.
func indexOf(clauses [][]int, clause []int) int {
	return slices.IndexFunc(clauses, func(c []int) bool { return setOf(c) == setOf(clause) })
}

func (w *watched) stands() [][]int {
	return append(append([][]int{}, w.taken...), w.learnt...)
}

// notALine tells why a clause can't stand in an a line, nor in an e line; but for its components.
func (w *watched) notALine(clause []int) string {
	if len(strings.Fields(setOf(clause))) != len(clause) {
		return "a literal stands there twice"
	}
	if !pushes(w.stands(), clause) {
		return "it does not follow"
	}
	return ""
}

// inOneComponent tells whether a component of the clauses that were taken has all variables of a clause.
func (w *watched) inOneComponent(clause []int) bool {
	if len(clause) == 0 {
		return true
	}
	there := w.component(max(clause[0], -clause[0]))
	for _, n := range clause {
		if !there[max(n, -n)] {
			return false
		}
	}
	return true
}

// notAnEnd tells why a clause can't stand in an e line.
func (w *watched) notAnEnd(clause []int) string {
	if why := w.notALine(clause); why != "" {
		return why
	}
	if w.inOneComponent(clause) {
		return ""
	}
	for _, n := range clause {
		if max(n, -n) != max(clause[0], -clause[0]) || len(w.component(max(n, -n))) > 0 {
			return "it is of two components"
		}
	}
	return ""
}

// notLearnable tells why a clause can't be learnt.
func (w *watched) notLearnable(clause []int) string {
	if w.settings.Reduce > 0 && w.want.Learnt >= w.settings.Reduce {
		return "there are as many as may be"
	}
	if why := w.notALine(clause); why != "" {
		return why
	}
	if !w.inOneComponent(clause) {
		return "it is not of one component"
	}
	if isTautology(clause) {
		return "it is a tautology"
	}
	if indexOf(w.stands(), clause) >= 0 {
		return "it is there already"
	}
	return ""
}

// notDroppable tells why a clause can't be dropped.
func (w *watched) notDroppable(clause []int) string {
	if w.settings.Reduce == 0 {
		return "Reduce is 0"
	}
	if indexOf(w.learnt, clause) < 0 {
		return "it is no learnt clause that is there"
	}
	if why := w.notALine(clause); why != "" {
		return why
	}
	if !w.inOneComponent(clause) {
		return "it is not of one component"
	}
	return ""
}

// component goes from neighbour to neighbour; a variable that no clause has is in none.
func (w *watched) component(v int) map[int]bool {
	there := map[int]bool{}
	for _, c := range w.taken {
		for _, n := range c {
			if v == max(n, -n) {
				there[v] = true
			}
		}
	}
	for size := -1; size != len(there); {
		size = len(there)
		for _, c := range w.taken {
			for _, n := range c {
				for _, m := range c {
					if there[max(n, -n)] {
						there[max(m, -m)] = true
					}
				}
			}
		}
	}
	return there
}

// areSo tells whether each clause has one of the values.
func areSo(clauses [][]int, values []int) bool {
	for _, c := range clauses {
		so := false
		for _, n := range c {
			so = so || slices.Contains(values, n)
		}
		if !so {
			return false
		}
	}
	return true
}

// someWorld tells whether a world allows all clauses.
func someWorld(clauses [][]int) bool {
next:
	for world := range 1024 {
		for _, c := range clauses {
			allowed := false
			for _, n := range c {
				allowed = allowed || world>>(max(n, -n)-1)&1 == 1 == (n > 0)
			}
			if !allowed {
				continue next
			}
		}
		return true
	}
	return false
}

func (w *watched) judgeSat(a api.Answer, assume []int) {
	w.t.Helper()
	if a.Reason != 0 || len(a.Core)+len(a.Clause) != 0 {
		w.t.Fatalf("P9: over %v with %v Sat with more than values: %+v", w.taken, assume, a)
	}
	var vars []int
	for _, n := range a.Values {
		vars = append(vars, max(n, -n))
	}
	if !slices.Equal(vars, w.seen()) || !areSo(w.taken, a.Values) || !areSo(units(assume), a.Values) {
		w.t.Fatalf("P10: over %v with %v the values %v", w.taken, assume, a.Values)
	}
}

// units has each literal as a clause.
func units(literals []int) [][]int {
	var l [][]int
	for _, n := range literals {
		l = append(l, []int{n})
	}
	return l
}

// notACore tells why a list is not some of the assumptions, in their order, none twice.
func notACore(core, assume []int) string {
	rest := assume
	for i, n := range core {
		at := slices.Index(rest, n)
		if at < 0 {
			return "they are not assumptions in their order"
		}
		rest = rest[at+1:]
		if slices.Contains(core[:i], n) {
			return "one stands there twice"
		}
	}
	return ""
}

func opposites(literals []int) []int {
	var l []int
	for _, n := range literals {
		l = append(l, -n)
	}
	return l
}

func (w *watched) judgeUnsat(a api.Answer, assume []int) {
	w.t.Helper()
	if a.Reason != 0 || len(a.Values)+len(a.Clause) != 0 {
		w.t.Fatalf("P9: over %v with %v Unsat with more than a core: %+v", w.taken, assume, a)
	}
	if why := notACore(a.Core, assume); why != "" {
		w.t.Fatalf("P11: over %v with %v the core %v: %s", w.taken, assume, a.Core, why)
	}
	if someWorld(append(units(a.Core), w.taken...)) {
		w.t.Fatalf("P11: over %v with %v the core %v, and there is a world", w.taken, assume, a.Core)
	}
	last, err, n := trail.Check(w.taken, w.proof)
	if len(last) != len(a.Core) || setOf(last) != setOf(opposites(a.Core)) || err != api.OK || n != strings.Count(w.proof, "\n") {
		w.t.Fatalf("P11: over %v with %v the core %v, and Check of the proof %q = %v, %d, %d", w.taken, assume, a.Core, w.proof, last, err, n)
	}
}

// notNext tells why no line with a clause could be written next.
func (w *watched) notNext(clause, assume []int) string {
	why := w.notLearnable(clause)
	if why == "" || w.notDroppable(clause) == "" {
		return ""
	}
	for _, n := range clause {
		if !slices.Contains(assume, -n) {
			return why + ", and not the opposites of assumptions"
		}
	}
	return w.notAnEnd(clause)
}

func (w *watched) judgeUnknown(a api.Answer, assume []int, learnt, budget, unsatBefore int) {
	w.t.Helper()
	if len(a.Values)+len(a.Core) != 0 || a.Reason == api.ByBudget && len(a.Clause) != 0 {
		w.t.Fatalf("P9: over %v with %v Unknown with more than a reason and a clause: %+v", w.taken, assume, a)
	}
	why := ""
	switch a.Reason {
	case api.ByBudget:
		if budget == 0 || learnt != budget {
			why = "the budget is not spent"
		}
	case api.ByHeld:
		why = w.notLearnable(a.Clause)
		if w.want.Held+len(a.Clause) <= w.settings.Held {
			why = "there is room"
		}
	case api.ByLog:
		why = w.notNext(a.Clause, assume)
		if w.want.Log+len(a.Clause)+1 <= w.settings.Log {
			why = "there is room"
		}
	default:
		why = "no reason"
	}
	if why != "" {
		w.t.Fatalf("P13: over %v with %v, with %+v, the budget %d and the proof %q: %+v: %s", w.taken, assume, w.settings, budget, w.proof, a, why)
	}
	held, log := roomFor(w.want.Vars, unsatBefore)
	if w.settings.Reduce == 0 && budget == 0 && held <= w.settings.Held && log <= w.settings.Log {
		w.t.Fatalf("P14: over %v with %v, with %+v and the proof %q: %+v", w.taken, assume, w.settings, w.proof, a)
	}
}

// roomFor is the Held and the Log with which P14 promises an answer, behind some answers Unsat.
func roomFor(vars, unsat int) (held, log int) {
	power := 1
	for range vars {
		power *= 3
	}
	return vars * power, (vars+1)*power + (2*vars+1)*(unsat+1)
}
