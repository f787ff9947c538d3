package trail_test

import (
	"fmt"
	"math"
	"math/rand"
	"reflect"
	"regexp"
	"strconv"
	"strings"
	"testing"

	"trail/api"
	"trail/trail"
)

var signs = [][]int{{1, 2}, {1, -2}, {-1, 2}, {-1, -2}}

func checks(t *testing.T, clauses [][]int, proof string, want []int, wantErr api.Errno, wantN int) {
	t.Helper()
	got, err, n := trail.Check(clauses, proof)
	if fmt.Sprint(got) != fmt.Sprint(want) || err != wantErr || n != wantN {
		t.Errorf("P8: Check(%.60s, %.60q) = %.60s, %d, %d, want %.60s, %d, %d", fmt.Sprint(clauses), proof, fmt.Sprint(got), err, n, fmt.Sprint(want), wantErr, wantN)
	}
	if err != api.OK && got != nil {
		t.Errorf("P1: Check(%.60s, %.60q) tells an error and %v", fmt.Sprint(clauses), proof, got)
	}
}

// lists is n times the same clause, and then some more.
func lists(n int, clause []int, more ...[]int) [][]int {
	var l [][]int
	for range n {
		l = append(l, clause)
	}
	return append(l, more...)
}

func TestCheckExamples(t *testing.T) {
	checks(t, signs, "a 1 0\ne 0\n", nil, api.OK, 2)
	checks(t, signs, "e 0\n", nil, api.ErrStep, 0)
	checks(t, signs, "a 1 0\n", nil, api.ErrOpen, 1)
	checks(t, signs, "", nil, api.ErrOpen, 0)
	checks(t, signs, "a 1 0\nd 2 1 0\ne 0\n", nil, api.OK, 3)
	checks(t, signs, "d 1 3 0\n", nil, api.ErrGone, 0)
	checks(t, signs, "a 1 0\na 1  0\n", nil, api.ErrText, 1)
	checks(t, nil, "e 1 -1 0\n", []int{1, -1}, api.OK, 1)
	checks(t, nil, "", nil, api.ErrOpen, 0)
}

func TestCheckLength(t *testing.T) {
	// 4,194,304 is six times 699,050 and 4 more.
	full := strings.Repeat("e 1 0\n", 699050)
	checks(t, signs, full, []int{1}, api.OK, 699050)
	checks(t, [][]int{nil}, full+"e 0\n", nil, api.OK, 699051)
	checks(t, signs, full+"e 0\n", nil, api.ErrStep, 699050)
	checks(t, signs, full+"d 0\n", nil, api.ErrGone, 699050)
	checks(t, signs, full+"xxxx", nil, api.ErrText, 699050)
	checks(t, [][]int{nil}, full+"e 0\n\n", nil, api.ErrLong, 0)
	// The length comes ahead of what is wrong with the clauses and the lines.
	checks(t, [][]int{{1}, {0}}, full+"e 1 0\n", nil, api.ErrLong, 0)
	checks(t, [][]int{{1}, {0}}, full+"e 0\n", nil, api.ErrLit, 1)
	checks(t, signs, strings.Repeat("x", 4194305), nil, api.ErrLong, 0)
	checks(t, signs, strings.Repeat("x", 4194304), nil, api.ErrText, 0)
	checks(t, signs, "e "+strings.Repeat("1 ", 2097150)+"0\n", many(1, 2097150), api.OK, 1)
	checks(t, signs, "e "+strings.Repeat("1 ", 2097151)+"0\n", nil, api.ErrLong, 0)
}

func TestCheckRefusesClauses(t *testing.T) {
	for _, n := range []int{0, 11, -11, math.MinInt, math.MaxInt, 1 << 32, 1<<32 + 1} {
		checks(t, [][]int{{n}}, "x", nil, api.ErrLit, 0)
		checks(t, [][]int{nil, {1, -1}, {1, -1, n}, {0}}, "x", nil, api.ErrLit, 2)
	}
	wide := upTo(10)
	checks(t, lists(15, wide), "e 1 0\n", nil, api.ErrStep, 0)
	checks(t, lists(15, wide, []int{1}), "x", nil, api.ErrFull, 15)
	checks(t, lists(15, wide, []int{1}, []int{0}), "", nil, api.ErrFull, 15)
	checks(t, lists(15, wide, []int{0}, []int{1}), "", nil, api.ErrLit, 15)
	checks(t, lists(15, wide, []int{1, 11}), "", nil, api.ErrLit, 15)
	checks(t, lists(14, wide, many(1, 1000), upTo(9)), "e "+strings.Repeat("1 ", 3)+"0\n", []int{1, 1, 1}, api.OK, 1)
	checks(t, lists(14, wide, many(1, 1000), wide), "", nil, api.ErrFull, 15)
	// Tautologies and empty clauses are not refused, but have a number.
	checks(t, lists(15, wide, []int{1, -1}, nil), "e 0\n", nil, api.OK, 1)
	checks(t, lists(15, wide, []int{1, -1}, nil, []int{1}), "e 0\n", nil, api.ErrFull, 17)
	checks(t, lists(150, []int{4}, []int{-4}), "", nil, api.ErrFull, 150)
	checks(t, lists(149, []int{4}, []int{-4}), "e 0\n", nil, api.OK, 1)
}

func TestCheckTakesClausesAsAdd(t *testing.T) {
	// A tautology is let go, and the others stand there as often as they were taken.
	checks(t, [][]int{{1, -1, 2}}, "d 1 -1 2 0\n", nil, api.ErrGone, 0)
	checks(t, [][]int{{1, 2}, {2, 1, 2}}, "d 1 2 0\nd 2 2 1 0\nd 1 2 0\n", nil, api.ErrGone, 2)
	checks(t, [][]int{nil, {3}, nil}, "d 0\nd 0\nd 0\n", nil, api.ErrGone, 2)
	checks(t, [][]int{nil, {3}, nil}, "d 0\nd 0\ne 0\n", nil, api.ErrStep, 2)
	checks(t, [][]int{nil, {3}, nil}, "d 3 0\nd 3 0\n", nil, api.ErrGone, 1)
}

func TestCheckManyClauses(t *testing.T) {
	empty := make([][]int, 1000000)
	checks(t, empty, strings.Repeat("d 0\n", 999999)+"e 0\n", nil, api.OK, 1000000)
	checks(t, append(lists(150, []int{4}), empty...), "d 0\ne 0\n", nil, api.OK, 2)
	checks(t, lists(1000000, []int{3, -3}, []int{0}), "e 0\n", nil, api.ErrLit, 1000000)
	checks(t, lists(1000000, []int{3, -3}, []int{3}), "e 3 0\n", []int{3}, api.OK, 1)
	checks(t, [][]int{append(many(3, 1000000), -3)}, "d 3 -3 0\n", nil, api.ErrGone, 0)
}

// Proofs by which very many clauses come to stand there: to go through all of them at each line would take too long.
func TestCheckManyLines(t *testing.T) {
	checks(t, signs, strings.Repeat("a 1 2 0\n", 524287)+"e 1 0\n", []int{1}, api.OK, 524288)
	checks(t, nil, strings.Repeat("a 1 -1 0\n", 200000)+strings.Repeat("d -1 1 0\n", 200000)+"d 1 -1 0\n", nil, api.ErrGone, 400000)

	var add, drop strings.Builder
	n := 0
	var all func(clause string, v int)
	all = func(clause string, v int) {
		if v > 10 {
			n++
			add.WriteString("a " + clause + "0\n")
			drop.WriteString("d " + clause + "0\n")
			return
		}
		all(clause, v+1)
		all(clause+strconv.Itoa(v)+" ", v+1)
		all(clause+strconv.Itoa(-v)+" ", v+1)
	}
	all("", 1)
	proof := add.String() + drop.String()
	checks(t, [][]int{nil}, proof, nil, api.ErrOpen, 2*n)
	checks(t, [][]int{nil}, "a 0\n"+proof+"e 0\n", nil, api.OK, 2*n+2)
	checks(t, [][]int{{1}, {-1}}, proof+"d 1 0\nd -1 0\nd 0\n", nil, api.ErrGone, 2*n+2)

	rest := strings.Repeat("e 10 9 0\n", (4194304-add.Len())/9)
	checks(t, [][]int{{10, 9, 8}, {9, 10, -8}, {9, -10}, {-9}}, add.String()+rest, []int{10, 9}, api.OK, n+len(rest)/9)
}

func TestCheckLeavesAndForgetsWhatIsHandedIn(t *testing.T) {
	behind := []int{1, 2, 9, -9}
	clauses := [][]int{behind[:2], {-1}, {-2}, {7}, nil}
	const proof = "e 5 5 -6 0\n"
	for range 2 {
		got, err, n := trail.Check(clauses[:3], proof)
		if !reflect.DeepEqual(got, []int{5, 5, -6}) || err != api.OK || n != 1 {
			t.Errorf("P2: Check = %v, %d, %d", got, err, n)
		}
		got = got[:cap(got)]
		for i := range got {
			got[i] = 77
		}
	}
	if fmt.Sprint(behind, clauses) != "[1 2 9 -9] [[1 2] [-1] [-2] [7] []]" {
		t.Errorf("P2: what was handed in reads %v, %v", behind, clauses)
	}
	// What one call adds does not stand there in the next.
	checks(t, signs, "a 1 0\ne 0\n", nil, api.OK, 2)
	checks(t, signs, "e 0\n", nil, api.ErrStep, 0)
}

// Odd inputs: none may panic, and errors come alone.
func TestCheckNoPanic(t *testing.T) {
	for b := range 256 {
		one := string([]byte{byte(b)})
		for _, proof := range []string{one, "e" + one, "e " + one, "e 1" + one + "0\n", "e 1 0" + one, "e 1 0\n" + one, one + " 0\n", "e -" + one + " 0\n", strings.Repeat(one, 5000)} {
			want, wantErr, wantN := plainCheck(signs, proof)
			checks(t, signs, proof, want, wantErr, wantN)
		}
	}
	for shift := range 64 {
		for _, n := range []int{1 << shift, -1 << shift, 1<<shift - 1, -1<<shift + 1} {
			proof := fmt.Sprintf("a %d -%d 0\nd %d 0\ne %d 0\n", n, n, n, n)
			want, wantErr, wantN := plainCheck([][]int{nil, {n}}, proof)
			checks(t, [][]int{nil, {n}}, proof, want, wantErr, wantN)
		}
	}
}

var proofLine = regexp.MustCompile(`^([ade]) ((?:-?(?:[1-9]|10) )*)0\n`)

// setOf tells a clause as a set: its literals in rising order, each once.
func setOf(clause []int) string {
	s := ""
	for n := -10; n <= 10; n++ {
		for _, m := range clause {
			if m == n {
				s += fmt.Sprint(n, " ")
				break
			}
		}
	}
	return s
}

// pushes pushes over lists, as the document words it.
func pushes(clauses [][]int, clause []int) bool {
	known := map[int]bool{}
	for _, n := range clause {
		known[-n] = true
	}
	for size := -1; size != len(known); {
		size = len(known)
		for _, c := range clauses {
			open := map[int]bool{}
			for _, n := range c {
				if !known[-n] {
					open[n] = true
				}
			}
			for n := range open {
				if len(open) == 1 {
					known[n] = true
				}
			}
			if len(open) == 0 {
				return true
			}
		}
		for n := range known {
			if known[-n] {
				return true
			}
		}
	}
	return false
}

// plainCheck is P8 in other words: lists, patterns and a solver.
func plainCheck(clauses [][]int, proof string) ([]int, api.Errno, int) {
	if len(proof) > api.MaxProof {
		return nil, api.ErrLong, 0
	}
	x, _ := trail.New(api.Settings{})
	var stands [][]int
	for i, c := range clauses {
		before := x.Counts().Clauses
		if err := x.Add(c); err != api.OK {
			return nil, err, i
		}
		if x.Counts().Clauses > before {
			stands = append(stands, c)
		}
	}
	letter := ""
	var literals []int
	n := 0
	for ; proof != ""; n++ {
		m := proofLine.FindStringSubmatch(proof)
		if m == nil {
			return nil, api.ErrText, n
		}
		proof = proof[len(m[0]):]
		letter, literals = m[1], nil
		for _, w := range strings.Fields(m[2]) {
			l, _ := strconv.Atoi(w)
			literals = append(literals, l)
		}
		if letter == "d" {
			at := 0
			for at < len(stands) && setOf(stands[at]) != setOf(literals) {
				at++
			}
			if at == len(stands) {
				return nil, api.ErrGone, n
			}
			stands = append(stands[:at:at], stands[at+1:]...)
			continue
		}
		if !pushes(stands, literals) {
			return nil, api.ErrStep, n
		}
		if letter == "a" {
			stands = append(stands, literals)
		}
	}
	if letter != "e" {
		return nil, api.ErrOpen, n
	}
	return literals, api.OK, n
}

// someClause is seldom empty, and has seldom a number that is no literal.
func someClause(r *rand.Rand, vars, most int) []int {
	var l []int
	if r.Intn(200) == 0 {
		return l
	}
	for range 1 + r.Intn(most) {
		n := 1 + r.Intn(vars)
		if r.Intn(2) == 0 {
			n = -n
		}
		if r.Intn(1000) == 0 {
			n = 11 * r.Intn(2)
		}
		l = append(l, n)
	}
	return l
}

// someLine is a line, or seldom none.
func someLine(r *rand.Rand, vars int, dropped []int) string {
	if r.Intn(50) == 0 {
		return []string{"e 0", "\n", "e 1  0\n", "a 11 0\n", "d 01 0\n", "x 0\n", "e 0\r\n", "a\n", "e 0 0\n", " e 0\n"}[r.Intn(10)]
	}
	letter, clause := string("aaadee"[r.Intn(6)]), someClause(r, vars, 5)
	if letter == "d" && r.Intn(10) > 0 {
		clause = nil
		for _, i := range r.Perm(len(dropped)) {
			clause = append(clause, dropped[i])
			if r.Intn(4) == 0 {
				clause = append(clause, dropped[i])
			}
		}
	}
	text := letter + " "
	for _, n := range clause {
		text += fmt.Sprint(n, " ")
	}
	return text + "0\n"
}

// someProof tries some lines for each, to take one that goes through: else proofs would seldom become long.
func someProof(r *rand.Rand) ([][]int, string) {
	vars, most := 1+r.Intn(10), 2+r.Intn(6)
	var clauses [][]int
	for range r.Intn(8 * vars) {
		clauses = append(clauses, someClause(r, vars, most))
	}
	stood := append([][]int{nil}, clauses...)
	proof := ""
	for n := range r.Intn(30) {
		line := ""
		for range 10 {
			line = someLine(r, vars, stood[r.Intn(len(stood))])
			if _, _, got := trail.Check(clauses, proof+line); got > n || r.Intn(40) == 0 {
				break
			}
		}
		proof += line
		if _, _, got := trail.Check(clauses, proof); got <= n {
			break
		}
		var clause []int
		for _, w := range strings.Fields(line[1:]) {
			if l, _ := strconv.Atoi(w); l != 0 {
				clause = append(clause, l)
			}
		}
		stood = append(stood, clause)
	}
	return clauses, proof
}

func TestCheckAsTheWordsSay(t *testing.T) {
	r := rand.New(rand.NewSource(2))
	var errs [10]int
	longest := 0
	for range 5000 {
		clauses, proof := someProof(r)
		want, wantErr, wantN := plainCheck(clauses, proof)
		checks(t, clauses, proof, want, wantErr, wantN)
		errs[wantErr]++
		longest = max(longest, wantN)
	}
	for _, e := range []api.Errno{api.OK, api.ErrText, api.ErrLit, api.ErrFull, api.ErrStep, api.ErrGone, api.ErrOpen} {
		if errs[e] < 20 {
			t.Errorf("too few of a kind: %v", errs)
			break
		}
	}
	if longest < 20 {
		t.Errorf("the longest proof has %d lines", longest)
	}
}
