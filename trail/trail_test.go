package trail_test

import (
	"math"
	"reflect"
	"strings"
	"testing"

	"trail/api"
	"trail/trail"
)

func fresh(t *testing.T) *trail.Solver {
	t.Helper()
	x, err := trail.New(api.Settings{Held: 100, Log: 100})
	if err != api.OK || x == nil {
		t.Fatalf("P5: New = %v, %d", x, err)
	}
	return x
}

func add(t *testing.T, x *trail.Solver, want api.Errno, clause ...int) {
	t.Helper()
	if err := x.Add(clause); err != want {
		t.Errorf("P6: Add(%.10v) = %d, want %d", clause, err, want)
	}
}

func counts(t *testing.T, x *trail.Solver, vars, clauses, lits int) {
	t.Helper()
	want := api.Counts{Vars: vars, Clauses: clauses, Lits: lits}
	// Twice: to be asked changes nothing.
	for range 2 {
		if got := x.Counts(); got != want {
			t.Errorf("P7: Counts = %+v, want %+v", got, want)
		}
		if proof := x.Proof(); proof != "" {
			t.Errorf("P7: Proof = %q", proof)
		}
	}
}

func upTo(last int) []int {
	var l []int
	for v := 1; v <= last; v++ {
		l = append(l, v)
	}
	return l
}

func TestReadAndWrite(t *testing.T) {
	clauses, err, at := trail.Read("c hi\n1 -2 0 3\n0")
	if !reflect.DeepEqual(clauses, [][]int{{1, -2}, {3}}) || err != api.OK || at != 0 {
		t.Errorf("P3: Read = %v, %d, %d", clauses, err, at)
	}
	clauses, err, at = trail.Read("1 0 1 11 0")
	if clauses != nil || err != api.ErrLit || at != 6 {
		t.Errorf("P3: Read = %v, %d, %d, want ErrLit, 6", clauses, err, at)
	}
	text, err := trail.Write([][]int{{3, 3, -10}, nil})
	if text != "3 3 -10 0\n0\n" || err != api.OK {
		t.Errorf("P4: Write = %q, %d", text, err)
	}
	text, err = trail.Write([][]int{{3, 0}})
	if text != "" || err != api.ErrLit {
		t.Errorf("P4: Write = %q, %d, want ErrLit", text, err)
	}
}

func TestNewSettings(t *testing.T) {
	reduce := func(n int) bool { return n == 0 || n >= 12 && n <= 64 }
	for n := -70; n <= 140; n++ {
		made(t, api.Settings{Reduce: n}, reduce(n))
	}
	for _, n := range []int{0, 1, 1048575, 1048576} {
		made(t, api.Settings{Held: n, Log: 1048576 - n}, true)
		made(t, api.Settings{Reduce: 12, Held: n, Log: n}, true)
		made(t, api.Settings{Reduce: 11, Held: n, Log: n}, false)
	}
	for _, n := range []int{-1, 1048577, math.MinInt, math.MaxInt, 1 << 32, 1<<32 + 12} {
		made(t, api.Settings{Held: n}, false)
		made(t, api.Settings{Log: n}, false)
		made(t, api.Settings{Reduce: n}, false)
		made(t, api.Settings{Reduce: n, Held: n, Log: n}, false)
	}
}

func made(t *testing.T, s api.Settings, right bool) {
	t.Helper()
	x, err := trail.New(s)
	if right && (err != api.OK || x == nil) || !right && (err != api.ErrSet || x != nil) {
		t.Errorf("P5: New(%+v) = %v, %d", s, x, err)
	}
	if x != nil {
		counts(t, x, 0, 0, 0)
	}
}

func TestAddTakes(t *testing.T) {
	x := fresh(t)
	counts(t, x, 0, 0, 0)
	add(t, x, api.OK, 1, 1, -2)
	counts(t, x, 2, 1, 2)
	add(t, x, api.OK, -2, 1)
	counts(t, x, 2, 2, 4)
	add(t, x, api.OK, -1, 10)
	counts(t, x, 3, 3, 6)
	add(t, x, api.OK)
	add(t, x, api.OK)
	counts(t, x, 3, 5, 6)
}

func TestAddRefusesNumbers(t *testing.T) {
	x := fresh(t)
	add(t, x, api.OK, 3)
	for _, n := range []int{0, 11, -11, math.MinInt, math.MaxInt, 1 << 32, 1<<32 + 1} {
		add(t, x, api.ErrLit, n)
		add(t, x, api.ErrLit, 4, 5, n)
		add(t, x, api.ErrLit, n, 4, 5)
		add(t, x, api.ErrLit, 1, -1, n)
		add(t, x, api.ErrLit, append(many(7, 100000), n)...)
	}
	counts(t, x, 1, 1, 1)
}

func many(n, times int) []int {
	l := make([]int, times)
	for i := range l {
		l[i] = n
	}
	return l
}

func TestAddLetsTautologiesGo(t *testing.T) {
	x := fresh(t)
	add(t, x, api.OK, 1, -1)
	add(t, x, api.OK, -10, 2, 3, 10)
	add(t, x, api.OK, append(many(5, 100000), -5)...)
	counts(t, x, 0, 0, 0)
}

func TestAddIsFull(t *testing.T) {
	x := fresh(t)
	for range 14 {
		add(t, x, api.OK, upTo(10)...)
	}
	add(t, x, api.OK, 1, 2)
	counts(t, x, 10, 15, 142)
	add(t, x, api.ErrFull, upTo(9)...)
	add(t, x, api.ErrFull, upTo(10)...)
	counts(t, x, 10, 15, 142)
	add(t, x, api.OK, append(upTo(8), upTo(8)...)...)
	counts(t, x, 10, 16, 150)
	add(t, x, api.ErrFull, 1)
	add(t, x, api.ErrFull, many(-9, 100000)...)
	add(t, x, api.ErrLit, 1, 11)
	add(t, x, api.OK, 1, 2, -2)
	counts(t, x, 10, 16, 150)
	add(t, x, api.OK)
	counts(t, x, 10, 17, 150)
}

func TestAddFullByUnits(t *testing.T) {
	x := fresh(t)
	for i := range 150 {
		add(t, x, api.OK, i%2*2-1)
	}
	add(t, x, api.ErrFull, 2)
	counts(t, x, 1, 150, 150)
}

func TestAddEmptyClausesWithoutEnd(t *testing.T) {
	x := fresh(t)
	for range 100000 {
		x.Add(nil)
	}
	counts(t, x, 0, 100000, 0)
	add(t, x, api.OK, upTo(10)...)
	counts(t, x, 10, 100001, 10)
}

func TestReset(t *testing.T) {
	x := fresh(t)
	x.Reset()
	counts(t, x, 0, 0, 0)
	for range 15 {
		add(t, x, api.OK, upTo(10)...)
	}
	add(t, x, api.OK)
	add(t, x, api.ErrFull, 1)
	x.Reset()
	counts(t, x, 0, 0, 0)
	for range 15 {
		add(t, x, api.OK, upTo(10)...)
	}
	counts(t, x, 10, 15, 150)
	x.Reset()
	x.Reset()
	counts(t, x, 0, 0, 0)
}

func TestAddLeavesAndForgetsWhatIsHandedIn(t *testing.T) {
	x := fresh(t)
	behind := []int{5, 2, 5, 9, -9}
	add(t, x, api.OK, behind[:3]...)
	if !reflect.DeepEqual(behind, []int{5, 2, 5, 9, -9}) {
		t.Errorf("P2: what was handed in reads %v", behind)
	}
	for i := range behind {
		behind[i] = 0
	}
	counts(t, x, 2, 1, 2)
}

func TestSolversAreApart(t *testing.T) {
	x, y := fresh(t), fresh(t)
	add(t, x, api.OK, 1, 2, 3)
	add(t, y, api.OK, 4)
	counts(t, x, 3, 1, 3)
	counts(t, y, 1, 1, 1)
	y.Reset()
	counts(t, x, 3, 1, 3)
	counts(t, y, 0, 0, 0)
}

// Odd inputs one behind the other: none of them may panic, and errors come alone.
func TestNoPanic(t *testing.T) {
	x := fresh(t)
	for b := range 256 {
		one := string([]byte{byte(b)})
		for _, text := range []string{one, "c" + one, "\n" + one, "-" + one, "1" + one + "0", "1 0\n" + one + "0", strings.Repeat(one, 1000), strings.Repeat(one, 1001)} {
			clauses, err, at := trail.Read(text)
			if err != api.OK && clauses != nil || err == api.OK && at != 0 || at < 0 || at > len(text) {
				t.Errorf("P1: Read(%.20q) = %v, %d, %d", text, clauses, err, at)
			}
		}
	}
	for shift := range 64 {
		for _, n := range []int{1 << shift, -1 << shift, 1<<shift - 1, -1<<shift + 1} {
			text, err := trail.Write([][]int{nil, {n}, {1, n}})
			if err != api.OK && text != "" {
				t.Errorf("P1: Write with %d = %q, %d", n, text, err)
			}
			x.Reset()
			if added := x.Add([]int{n}); added != err {
				t.Errorf("P1: Add(%d) = %d, Write %d", n, added, err)
			}
		}
	}
}
