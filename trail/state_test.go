package trail

import (
	"reflect"
	"testing"

	"trail/api"
	"trail/literal"
)

// busy is a solver as a search may leave it: something seen, learnt, proved.
func busy(t *testing.T) *Solver {
	t.Helper()
	x, err := New(api.Settings{Reduce: 12, Held: 30, Log: 40})
	if err != api.OK {
		t.Fatal("P5: New:", err)
	}
	for _, c := range [][]int{{1, 2}, {1, -2}, {-1, 2}, {-1, -2}, nil} {
		if err := x.Add(c); err != api.OK {
			t.Fatal("P6: Add:", err)
		}
	}
	seven, _ := literal.Of([]int{7})
	x.seen |= seven.Vars()
	for _, c := range [][]int{{1}, {1, 2}} {
		s, _ := literal.Of(c)
		x.learnt = append(x.learnt, s)
	}
	x.proof = []byte("a 1 0\na 1 2 0\ne 0\n")
	x.size = 6
	x.unsat = 1
	return x
}

func TestCountsAndProofOfABusySolver(t *testing.T) {
	x := busy(t)
	want := api.Counts{Vars: 3, Clauses: 5, Lits: 8, Learnt: 2, Held: 3, Log: 6, Unsat: 1}
	check := func() {
		t.Helper()
		if got := x.Counts(); got != want {
			t.Errorf("P7: Counts = %+v, want %+v", got, want)
		}
		if got := x.Proof(); got != "a 1 0\na 1 2 0\ne 0\n" {
			t.Errorf("P7: Proof = %q", got)
		}
	}
	check()
	check()
	// What is refused or let go changes nothing.
	x.Add([]int{8, 11})
	x.Add([]int{9, -9})
	check()
	x.Add([]int{7, 8})
	want.Vars, want.Clauses, want.Lits = 4, 6, 10
	check()
}

func TestProofIsFresh(t *testing.T) {
	x := busy(t)
	proof := x.Proof()
	x.proof[0] = 'd'
	if proof != "a 1 0\na 1 2 0\ne 0\n" {
		t.Errorf("P2: a proof that came out reads %q later", proof)
	}
}

func TestResetOfABusySolver(t *testing.T) {
	x := busy(t)
	x.Reset()
	made, _ := New(api.Settings{Reduce: 12, Held: 30, Log: 40})
	if !reflect.DeepEqual(x, made) {
		t.Errorf("P7: after Reset %+v, as New made it %+v", x, made)
	}
	if x.Counts() != (api.Counts{}) || x.Proof() != "" {
		t.Errorf("P7: after Reset %+v, %q", x.Counts(), x.Proof())
	}
}
