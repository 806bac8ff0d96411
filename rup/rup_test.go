package rup

import (
	"math"
	"reflect"
	"slices"
	"testing"

	"quartermaster/api"
)

// formula: these clauses, of variables from 1 to vars.
func formula(vars int, clauses ...api.Clause) api.Formula {
	return api.Formula{Vars: vars, Clauses: clauses}
}

// proof of these clauses.
func proof(clauses ...api.Clause) []api.Clause { return clauses }

// repeated: a clause of n times literal.
func repeated(literal, n int) api.Clause { return slices.Repeat(api.Clause{literal}, n) }

// many: n times c.
func many(n int, c api.Clause) []api.Clause { return slices.Repeat([]api.Clause{c}, n) }

// contrary: no model, but nothing follows from no literals.
func contrary() api.Formula {
	return formula(2, api.Clause{1, 2}, api.Clause{-1, 2}, api.Clause{1, -2}, api.Clause{-1, -2})
}

func TestCheckTakes(t *testing.T) {
	for i, c := range []struct {
		proof []api.Clause
		vars  int
	}{
		{nil, 0},
		{nil, api.MaxVars},
		{proof(), 3},
		{proof(nil), 0},
		{proof(api.Clause{}, nil, api.Clause{}), 0},
		{proof(api.Clause{1}), 1},
		{proof(api.Clause{-1}), 1},
		{proof(api.Clause{3, -3, 3}, nil, api.Clause{-2}), 3},
		{proof(api.Clause{api.MaxVars, -api.MaxVars}), api.MaxVars},
		{proof(repeated(2, api.MaxLits)), 2},
		{make([]api.Clause, api.MaxProof), 0},
		{many(api.MaxProof, api.Clause{-2, 1}), 2},
		{many(api.MaxProof, repeated(-1, api.MaxLits)), 1},
	} {
		if e := Check(c.proof, c.vars); e != api.OK {
			t.Errorf("%d: %d", i, e)
		}
	}
}

type wrongProof struct {
	proof []api.Clause
	want  api.Errno
}

// wrongProofs: of two variables, with the error that is told first.
func wrongProofs() []wrongProof {
	long := repeated(1, api.MaxLits+1)
	return []wrongProof{
		{make([]api.Clause, api.MaxProof+1), api.ErrMany},
		{make([]api.Clause, 1000000), api.ErrMany},
		{proof(long), api.ErrMany},
		{proof(nil, api.Clause{1}, long), api.ErrMany},
		{proof(api.Clause{0}), api.ErrWho},
		{proof(api.Clause{3}), api.ErrWho},
		{proof(api.Clause{-3}), api.ErrWho},
		{proof(api.Clause{1, 2}, api.Clause{1, -2, 0}), api.ErrWho},
		{proof(nil, api.Clause{math.MinInt}), api.ErrWho},
		{proof(api.Clause{math.MaxInt}), api.ErrWho},
		{append(many(api.MaxProof-1, nil), api.Clause{3}), api.ErrWho},

		// Several at once: how many, then the first clause's.
		{many(api.MaxProof+1, api.Clause{0}), api.ErrMany},
		{proof(repeated(0, api.MaxLits+1)), api.ErrMany},
		{proof(api.Clause{0}, long), api.ErrWho},
		{proof(long, api.Clause{0}), api.ErrMany},
	}
}

func TestCheckRefuses(t *testing.T) {
	for i, c := range wrongProofs() {
		if e := Check(c.proof, 2); e != c.want {
			t.Errorf("%d: %d, want %d", i, e, c.want)
		}
		for _, vars := range []int{-1, api.MaxVars + 1, math.MinInt, math.MaxInt} {
			if e := Check(c.proof, vars); e != api.ErrRange {
				t.Errorf("%d, of %d variables: %d", i, vars, e)
			}
		}
	}
	for _, vars := range []int{-1, api.MaxVars + 1, math.MinInt, math.MaxInt} {
		if e := Check(nil, vars); e != api.ErrRange {
			t.Errorf("none, of %d variables: %d", vars, e)
		}
	}
	for _, literal := range []int{1, -1, 0} {
		if e := Check(proof(api.Clause{literal}), 0); e != api.ErrWho {
			t.Errorf("%d, of no variables: %d", literal, e)
		}
	}
}

// TestRefusedFormulas: what is wrong with a formula comes ahead of what is wrong with a proof.
func TestRefusedFormulas(t *testing.T) {
	for i, c := range []struct {
		f    api.Formula
		want api.Errno
	}{
		{formula(-1), api.ErrRange},
		{formula(api.MaxVars + 1), api.ErrRange},
		{formula(math.MinInt), api.ErrRange},
		{formula(-1, api.Clause{0}), api.ErrRange},
		{formula(1, many(api.MaxClauses+1, api.Clause{1})...), api.ErrMany},
		{formula(1, repeated(1, api.MaxLits+1)), api.ErrMany},
		{formula(1, api.Clause{2}), api.ErrWho},
		{formula(1, nil, api.Clause{1}, api.Clause{0}), api.ErrWho},
		{formula(2, api.Clause{math.MinInt}), api.ErrWho},
	} {
		for _, p := range [][]api.Clause{nil, {nil}, {{1}, {}}, {{0}}, {repeated(5, api.MaxLits+1)}, make([]api.Clause, api.MaxProof+1)} {
			refused(t, i, c.f, p, c.want)
		}
	}
}

// TestRefusedProofs: also behind a clause that doesn't come at once.
func TestRefusedProofs(t *testing.T) {
	for i, c := range wrongProofs() {
		for _, f := range []api.Formula{formula(2), formula(2, nil), contrary()} {
			refused(t, i, f, c.proof, c.want)
		}
	}
	refused(t, -1, formula(2), proof(api.Clause{1}, api.Clause{3}), api.ErrWho)
	refused(t, -2, formula(0), proof(api.Clause{1}), api.ErrWho)
}

func refused(t *testing.T, i int, f api.Formula, p []api.Clause, want api.Errno) {
	t.Helper()
	if bad, e := Bad(f, p); bad != 0 || e != want {
		t.Errorf("Bad of %d: %d, %d, want %d", i, bad, e, want)
	}
	if got, e := Refutes(f, p); got || e != want {
		t.Errorf("Refutes of %d: %v, %d, want %d", i, got, e, want)
	}
}

// judged: what must be answered of a proof.
type judged struct {
	f       api.Formula
	proof   []api.Clause
	bad     int
	refutes bool
}

func (w judged) ask(t *testing.T, i int) {
	t.Helper()
	if bad, e := Bad(w.f, w.proof); bad != w.bad || e != api.OK {
		t.Errorf("Bad of %d: %d, %d, want %d", i, bad, e, w.bad)
	}
	if got, e := Refutes(w.f, w.proof); got != w.refutes || e != api.OK {
		t.Errorf("Refutes of %d: %v, %d, want %v", i, got, e, w.refutes)
	}
}

func TestComesAtOnce(t *testing.T) {
	chain := formula(4, api.Clause{-3, 4}, api.Clause{-2, 3}, api.Clause{-1, 2})
	for i, w := range []judged{
		{f: formula(0), bad: -1},
		{f: formula(3), proof: proof(), bad: -1},
		{f: contrary(), bad: -1},

		// Two literals that don't agree are enough, whatever the formula says.
		{f: formula(1), proof: proof(api.Clause{1, -1}), bad: -1},
		{f: formula(3), proof: proof(api.Clause{-3, 1, 2, 3}, api.Clause{2, -2, 2}), bad: -1},
		{f: formula(2), proof: proof(api.Clause{1, 1}), bad: 0},
		{f: formula(2), proof: proof(api.Clause{1, -2}), bad: 0},

		// What the formula says comes, with more literals, too, but not with fewer.
		{f: formula(3, api.Clause{1, 2}), proof: proof(api.Clause{1, 2}, api.Clause{2, 1}, api.Clause{-3, 2, 2, 1}), bad: -1},
		{f: formula(3, api.Clause{1, 2}), proof: proof(api.Clause{1}), bad: 0},
		{f: formula(3, api.Clause{1, 2}), proof: proof(api.Clause{1, -2}), bad: 0},
		{f: formula(3, api.Clause{1, 2, 2}), proof: proof(api.Clause{1, 1, 2}), bad: -1},
		{f: formula(1, api.Clause{1, -1}), proof: proof(api.Clause{1}), bad: 0},
		{f: formula(1, api.Clause{1, 1}), proof: proof(api.Clause{1}), bad: -1},

		// Again and again, from one literal or from several.
		{f: chain, proof: proof(api.Clause{-1, 4}, api.Clause{4, -2}, api.Clause{-1, 3}), bad: -1},
		{f: chain, proof: proof(api.Clause{1, -4}), bad: 0},
		{f: chain, proof: proof(api.Clause{-1, 4}, api.Clause{-4, 1}, api.Clause{4}), bad: 1},
		{f: formula(2, contrary().Clauses[:2]...), proof: proof(api.Clause{2}), bad: -1},
		{f: formula(2, contrary().Clauses[:2]...), proof: proof(api.Clause{-2}), bad: 0},

		// It holds in each model, but must be tried.
		{f: formula(3, api.Clause{1, 2, 3}, api.Clause{1, 2, -3}, api.Clause{1, -2, 3}, api.Clause{1, -2, -3}), proof: proof(api.Clause{1}), bad: 0},
		{f: formula(3, api.Clause{1, 2, 3}, api.Clause{1, 2, -3}, api.Clause{1, -2, 3}, api.Clause{1, -2, -3}), proof: proof(api.Clause{1, 2}, api.Clause{1}), bad: -1},

		// Only those ahead have a say.
		{f: formula(3, api.Clause{1, 2, 3}, api.Clause{1, 2, -3}, api.Clause{1, -2, 3}, api.Clause{1, -2, -3}), proof: proof(api.Clause{1}, api.Clause{1, 2}), bad: 0},
		{f: formula(2), proof: proof(api.Clause{1, -1}, api.Clause{2}, api.Clause{2}), bad: 1},
		{f: formula(2, api.Clause{1}), proof: proof(api.Clause{1}, api.Clause{1, 2}, api.Clause{2}, api.Clause{-1}), bad: 2},
	} {
		w.ask(t, i)
	}
}

func TestRefutes(t *testing.T) {
	apart := formula(1, api.Clause{1}, api.Clause{-1})
	for i, w := range []judged{
		{contrary(), proof(api.Clause{1}, nil), -1, true},
		{contrary(), proof(api.Clause{-2}, api.Clause{}), -1, true},
		{contrary(), proof(api.Clause{1, -1}, api.Clause{1}, api.Clause{2}, api.Clause{}), -1, true},
		{apart, proof(nil), -1, true},
		{formula(0, nil), proof(nil), -1, true},
		{formula(3, api.Clause{1}, api.Clause{}), proof(api.Clause{2}, api.Clause{-2}, api.Clause{}), -1, true},
		{formula(3, api.Clause{1}, api.Clause{-1, 2}, api.Clause{-2, 3}, api.Clause{-3, -1}), proof(nil), -1, true},

		// Too soon.
		{contrary(), proof(nil), 0, false},
		{contrary(), proof(api.Clause{1, 2}, nil), 1, false},
		{contrary(), proof(nil, api.Clause{1}, nil), 0, false},

		// No last one, or not an empty one.
		{contrary(), nil, -1, false},
		{formula(0, nil), nil, -1, false},
		{apart, proof(), -1, false},
		{contrary(), proof(api.Clause{1}), -1, false},
		{contrary(), proof(api.Clause{1}, nil, api.Clause{2}), -1, false},
		{contrary(), proof(api.Clause{1}, nil, api.Clause{2, -2}), -1, false},
		{contrary(), proof(api.Clause{1}, nil, api.Clause{2}, nil), -1, true},

		// There is a model.
		{formula(0), proof(nil), 0, false},
		{formula(2), proof(api.Clause{1}, api.Clause{-1}, nil), 0, false},
		{formula(2, contrary().Clauses[:3]...), proof(api.Clause{1}, api.Clause{2}, nil), 2, false},
	} {
		w.ask(t, i)
	}
}

// TestOnlyRead: neither lists that are handed in nor the room behind them are changed; what was asked leaves nothing behind.
func TestOnlyRead(t *testing.T) {
	lay := func() [][]api.Clause {
		return [][]api.Clause{
			{{2, 1, 2, 9}, {-1, 2, 9}, {-2, 1, 1, 9}, {-2, -1, 9}, {9}},
			{{1, -1, 2, 9}, {2, 2, 1, 9}, {1, 9}, {9}, {9}},
		}
	}
	given := lay()
	room := [][]api.Clause{slices.Clone(given[0]), slices.Clone(given[1])}
	for _, clauses := range room {
		for k := range clauses {
			clauses[k] = clauses[k][:len(clauses[k])-1]
		}
	}
	f, p := formula(2, room[0][:4]...), room[1][:4]
	for range 2 {
		if e := Check(p, 2); e != api.OK {
			t.Errorf("Check: %d", e)
		}
		judged{f, p, -1, true}.ask(t, 0)
		judged{formula(2, f.Clauses[:2]...), p, 2, false}.ask(t, 1)
	}
	if !reflect.DeepEqual(given, lay()) || len(room[0][4])+len(room[1][4]) > 0 || cap(room[0][4]) != 1 || cap(room[1][4]) != 1 {
		t.Errorf("changed: %v", given)
	}
}
