package search

import (
	"fmt"
	"slices"
	"testing"

	"trail/api"
	"trail/components"
	"trail/literal"
	"trail/pushing"
	"trail/texts"
)

var signs = [][]int{{1, 2}, {1, -2}, {-1, 2}, {-1, -2}}

// run searches over clauses, and tells the lines as a text.
func run(t *testing.T, clauses [][]int, assume []int, room Room) (api.Answer, string, *pushing.Clauses) {
	t.Helper()
	return runBehind(t, clauses, nil, assume, room)
}

// runBehind is run behind other searches that learnt something.
func runBehind(t *testing.T, clauses, learnt [][]int, assume []int, room Room) (api.Answer, string, *pushing.Clauses) {
	t.Helper()
	stands := pushing.New()
	sets := place(t, stands, clauses)
	there := place(t, stands, learnt)
	behind := append(slices.Clone(there), literal.Set{True: 2})
	assumed, _ := literal.Of(assume)
	a, lines := Run(stands, behind[:len(there)], components.Of(sets, assumed.Vars()), assume, room)
	if !slices.Equal(behind, append(there, literal.Set{True: 2})) {
		t.Errorf("P2: of %v became %v", there, behind)
	}
	var proof []byte
	for _, l := range lines {
		proof = texts.AppendLine(proof, l)
	}
	return a, string(proof), stands
}

// place makes clauses stand there, and has those that are not empty as sets.
func place(t *testing.T, stands *pushing.Clauses, clauses [][]int) []literal.Set {
	t.Helper()
	var sets []literal.Set
	for _, c := range clauses {
		s, right := literal.Of(c)
		if !right {
			t.Fatal("no literals:", c)
		}
		stands.Add(s, 1)
		if len(c) > 0 {
			sets = append(sets, s)
		}
	}
	return sets
}

func TestRun(t *testing.T) {
	for _, c := range []struct {
		clauses [][]int
		room    Room
		status  int
		reason  int
		lines   int
	}{
		{nil, Room{}, api.Sat, 0, 0},
		{[][]int{nil}, Room{}, api.Unknown, api.ByLog, 0},
		{[][]int{nil}, Room{Log: 1}, api.Unsat, 0, 1},
		{[][]int{{3}, {-4}}, Room{}, api.Sat, 0, 0},
		{[][]int{{3}, {-3}}, Room{Log: 1}, api.Unsat, 0, 1},
		{[][]int{{1, 2}, {-1, -2}, {3, 4}}, Room{}, api.Sat, 0, 0},
		{signs, Room{}, api.Unknown, api.ByHeld, 0},
		{signs, Room{Held: 1}, api.Unknown, api.ByLog, 0},
		{signs, Room{Held: 1, Log: 1}, api.Unknown, api.ByLog, 0},
		{signs, Room{Log: 3}, api.Unknown, api.ByHeld, 0},
		{signs, Room{Held: 1, Log: 2}, api.Unknown, api.ByLog, 1},
		{signs, Room{Held: 1, Log: 3}, api.Unsat, 0, 2},
		{signs, Room{Budget: 1, Held: 1, Log: 3}, api.Unsat, 0, 2},
	} {
		a, proof, _ := run(t, c.clauses, nil, c.room)
		lines := 0
		for _, b := range proof {
			if b == '\n' {
				lines++
			}
		}
		if a.Status != c.status || a.Reason != c.reason || lines != c.lines {
			t.Errorf("P10 to P13: over %v with %+v: %+v, %q", c.clauses, c.room, a, proof)
		}
	}
}

func TestRunTellsValuesOfAllComponents(t *testing.T) {
	a, proof, _ := run(t, [][]int{{-9, 2}, {9}, {4, -7}, {-4}, {10, 1}, {-10, -1}, {-1}}, nil, Room{})
	if a.Status != api.Sat || fmt.Sprint(a.Values) != "[-1 2 -4 -7 9 10]" || proof != "" {
		t.Errorf("P10: %+v, %q", a, proof)
	}
}

func TestRunLeavesWhatItLearnt(t *testing.T) {
	// Three variables in all signs: nothing follows of one literal.
	var clauses [][]int
	for i := range 8 {
		clauses = append(clauses, []int{1 - i&1*2, 2 - i>>1&1*4, 3 - i>>2&1*6})
	}
	a, proof, stands := run(t, clauses, nil, Room{Budget: 1, Held: 100, Log: 100})
	line, next, right := texts.ReadLine(proof, 0)
	if a.Status != api.Unknown || a.Reason != api.ByBudget || a.Clause != nil || !right || next != len(proof) || line.Letter != texts.Adds {
		t.Fatalf("P13: the budget 1: %+v, %q", a, proof)
	}
	set, _ := literal.Of(line.Literals)
	if !stands.Drop(set) || stands.Drop(set) {
		t.Errorf("P12: %q was learnt, and does not stand there once", proof)
	}
}

func TestRunWithAssumptions(t *testing.T) {
	chain := [][]int{{-1, 2}, {-2, 3}, {-4, 5}}
	for _, c := range []struct {
		clauses [][]int
		assume  []int
		room    Room
		status  int
		list    string
		proof   string
	}{
		{nil, []int{7, -3}, Room{}, api.Sat, "[-3 7]", ""},
		{nil, []int{7, 7, -3, -7}, Room{Log: 3}, api.Unsat, "[7 -7]", "e 7 -7 0\n"},
		{nil, []int{7, -7}, Room{Log: 2}, api.Unknown, "[7 -7]", ""},
		{chain, []int{-3}, Room{}, api.Sat, "[-1 -2 -3 4 5]", ""},
		{chain, []int{9, 1, -5}, Room{}, api.Sat, "[1 2 3 -4 -5 9]", ""},
		{chain, []int{9, -3, 4, 1}, Room{Log: 3}, api.Unsat, "[-3 1]", "e -1 3 0\n"},
		{chain, []int{9, -3, 4, 1}, Room{Log: 2}, api.Unknown, "[-1 3]", ""},
		// Of assumptions that are not needed all, some are left out.
		{chain, []int{1, 2, -3, 4}, Room{Log: 3}, api.Unsat, "[2 -3]", "e -2 3 0\n"},
		{chain, []int{-3, 2, 1, 2, -3}, Room{Log: 3}, api.Unsat, "[-3 1]", "e -1 3 0\n"},
		{append(chain, []int{-3}), []int{4, 2}, Room{Log: 2}, api.Unsat, "[2]", "e -2 0\n"},
		{append(chain, nil), []int{4, 2}, Room{Log: 1}, api.Unsat, "[]", "e 0\n"},
		{append(chain, []int{6}, []int{-6}), []int{1, -3}, Room{Log: 1}, api.Unsat, "[]", "e 0\n"},
		{append(chain, []int{6}, []int{-6}), []int{1, -3}, Room{}, api.Unknown, "[]", ""},
		// A clash by the assumptions alone is found ahead of all learning.
		{append(signs, []int{-4, 5}), []int{4, -5}, Room{Log: 3}, api.Unsat, "[4 -5]", "e -4 5 0\n"},
		{append(signs, []int{-4, 5}), []int{10, -10}, Room{Log: 3}, api.Unsat, "[10 -10]", "e 10 -10 0\n"},
	} {
		a, proof, _ := run(t, c.clauses, c.assume, c.room)
		list := append(append(append([]int{}, a.Values...), a.Core...), a.Clause...)
		if a.Status != c.status || fmt.Sprint(list) != c.list || proof != c.proof {
			t.Errorf("P10 to P13: over %v with %v: %+v, %q", c.clauses, c.assume, a, proof)
		}
	}
}

// What is learnt has no assumption that the clash does not need, so that it holds for other Solves too.
func TestRunLearnsWithoutIdleAssumptions(t *testing.T) {
	clauses := [][]int{{1, 2, 6}, {1, -2, 6}, {-1, 2, 6}, {-1, -2, 6}, {7, 8, 1}}
	a, proof, _ := run(t, clauses, []int{8, -6, 7}, Room{Held: 100, Log: 100})
	if a.Status != api.Unsat || fmt.Sprint(a.Core) != "[-6]" || proof != "a -1 6 0\ne 6 0\n" {
		t.Errorf("P11: %+v, %q", a, proof)
	}
}

// idle has learnt clauses of a component in which nothing is to be learnt.
var idle = [][]int{{7, 8}, {7, 8, 9}, {7, 9}, {7, 10}, {8, 9}, {8, 10}, {9, 10}, {8, 9, 10}, {7, 9, 10}, {7, 8, 10}, {7, -8, 9}}

// beside makes one component of the variables of idle.
var beside = []int{7, 8, 9, 10}

func TestRunDropsTheLongestIdle(t *testing.T) {
	fan := [][]int{{-1, 2}, {-1, 3}, {-1, 4}, {1, 5}, {1, -5}}
	for _, c := range []struct {
		clauses [][]int
		learnt  []int
		drops   string
		rest    string
	}{
		// All are idle.
		{signs, []int{7, -8}, "d 7 8 9 0\n", "a -1 0\ne 0\n"},
		{signs, []int{7, 8, 9, -10}, "d 7 8 9 -10 0\n", "a -1 0\ne 0\n"},
		// The clash needs the longest.
		{fan, []int{-1, -2, -3, -4}, "d 7 8 9 0\n", "a -1 0\ne 0\n"},
		// The clash does not need the longest, but without it 3 would not be known with 1, and would be decided.
		{[][]int{{2}, {4}, {1, 2, 3, 4}, {-1, -5, 6}, {-1, -5, -6}}, []int{-1, -2, 3, -4}, "d 7 8 9 0\n", "a -1 -5 0\n"},
		// An earlier component has its values by the longest.
		{[][]int{{1, 2, 3, 4}, {5, 6}, {5, -6}, {-5, 6}, {-5, -6}}, []int{-1, -2, -3, -4}, "d 7 8 9 0\n", "a -5 0\ne 0\n"},
		// What was taken too stands there without it.
		{append([][]int{{-1, -2, -3, -4}}, fan...), []int{-1, -2, -3, -4}, "d -1 -2 -3 -4 0\n", "a -1 0\ne 0\n"},
	} {
		clauses := append(slices.Clone(c.clauses), beside)
		learnt := append(slices.Clone(idle), c.learnt)
		for reduce, want := range map[int]string{12: c.drops + c.rest, 13: c.rest, 0: c.rest} {
			a, proof, _ := runBehind(t, clauses, learnt, nil, Room{Reduce: reduce, Held: 2, Log: 100})
			if a.Status == api.Unknown || proof != want {
				t.Errorf("P15: Reduce %d, over %v, behind %v: %+v, %q, want %q", reduce, clauses, learnt, a, proof, want)
			}
		}
	}
}

// What is dropped makes room for literals, and takes room in the proof.
func TestRunDropsWithLittleRoom(t *testing.T) {
	learnt := append(slices.Clone(idle), []int{7, -8})
	for _, c := range []struct {
		room   Room
		status int
		reason int
		clause string
		proof  string
	}{
		{Room{Budget: 1, Held: 0, Log: 7}, api.Unsat, 0, "[]", "d 7 8 9 0\na -1 0\ne 0\n"},
		{Room{Held: -2, Log: 7}, api.Unsat, 0, "[]", "d 7 8 9 0\na -1 0\ne 0\n"},
		{Room{Held: -3, Log: 7}, api.Unknown, api.ByHeld, "[-1]", "d 7 8 9 0\n"},
		{Room{Held: 5, Log: 6}, api.Unknown, api.ByLog, "[]", "d 7 8 9 0\na -1 0\n"},
		{Room{Held: 5, Log: 5}, api.Unknown, api.ByLog, "[-1]", "d 7 8 9 0\n"},
		{Room{Held: 5, Log: 4}, api.Unknown, api.ByLog, "[-1]", "d 7 8 9 0\n"},
		{Room{Held: 5, Log: 3}, api.Unknown, api.ByLog, "[7 8 9]", ""},
		{Room{Held: -3, Log: 0}, api.Unknown, api.ByLog, "[7 8 9]", ""},
	} {
		c.room.Reduce = 12
		a, proof, _ := runBehind(t, append(slices.Clone(signs), beside), learnt, nil, c.room)
		if a.Status != c.status || a.Reason != c.reason || fmt.Sprint(a.Clause) != c.clause || proof != c.proof {
			t.Errorf("P13: with %+v: %+v, %q", c.room, a, proof)
		}
	}
}

// What was dropped stands there no more.
func TestRunDropsOnce(t *testing.T) {
	learnt := append(slices.Clone(idle), []int{7, 8, 9, -10})
	taken := [][]int{{7, 8, 9, -10}, beside}
	_, _, stands := runBehind(t, append(taken, signs...), learnt, nil, Room{Reduce: 12, Held: 1, Log: 100})
	dropped, _ := literal.Of([]int{7, 8, 9, -10})
	if !stands.Drop(dropped) || stands.Drop(dropped) {
		t.Error("P15: of a clause that was taken and learnt, the taken one does not stand there")
	}
	other, _ := literal.Of(idle[1])
	if !stands.Drop(other) || stands.Drop(other) {
		t.Error("P15: more than one was dropped")
	}
}
