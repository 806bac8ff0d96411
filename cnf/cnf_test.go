package cnf

import (
	"math"
	"slices"
	"testing"

	"quartermaster/api"
)

// formula: these clauses, of variables from 1 to vars.
func formula(vars int, clauses ...api.Clause) api.Formula {
	return api.Formula{Vars: vars, Clauses: clauses}
}

// repeated: a clause of n times literal.
func repeated(literal, n int) api.Clause { return slices.Repeat(api.Clause{literal}, n) }

func TestCheckClause(t *testing.T) {
	for i, c := range []struct {
		c    api.Clause
		vars int
		want api.Errno
	}{
		{nil, 0, api.OK},
		{api.Clause{}, 3, api.OK},
		{nil, -1, api.OK},
		{nil, math.MinInt, api.OK},
		{api.Clause{1}, 1, api.OK},
		{api.Clause{-1}, 1, api.OK},
		{api.Clause{3, -3, 3, 1, -2}, 3, api.OK},
		{repeated(-2, api.MaxLits), 2, api.OK},
		// Vars above what a formula may have are no fault of a clause.
		{api.Clause{401, -1000}, 1000, api.OK},
		{api.Clause{math.MaxInt, -math.MaxInt}, math.MaxInt, api.OK},

		{repeated(1, api.MaxLits+1), 1, api.ErrMany},
		{repeated(1, 100000), 1, api.ErrMany},

		{api.Clause{0}, 1, api.ErrWho},
		{api.Clause{0}, 0, api.ErrWho},
		{api.Clause{1}, 0, api.ErrWho},
		{api.Clause{-1}, 0, api.ErrWho},
		{api.Clause{4}, 3, api.ErrWho},
		{api.Clause{-4}, 3, api.ErrWho},
		{api.Clause{1, -2, 3, 0}, 3, api.ErrWho},
		{api.Clause{1, -2, 3, -4}, 3, api.ErrWho},
		{append(repeated(1, api.MaxLits-1), 2), 1, api.ErrWho},
		{api.Clause{1}, -1, api.ErrWho},
		{api.Clause{-1}, -1, api.ErrWho},
		{api.Clause{0}, -1, api.ErrWho},
		// The least number is its own other sign.
		{api.Clause{math.MinInt}, 3, api.ErrWho},
		{api.Clause{math.MinInt}, math.MaxInt, api.ErrWho},
		{api.Clause{math.MinInt}, math.MinInt, api.ErrWho},
		{api.Clause{-1}, math.MinInt, api.ErrWho},
		{api.Clause{1}, math.MinInt, api.ErrWho},
		{api.Clause{math.MaxInt}, 3, api.ErrWho},

		// How many there are comes first.
		{repeated(0, api.MaxLits+1), 1, api.ErrMany},
		{repeated(2, api.MaxLits+1), 1, api.ErrMany},
	} {
		if e := CheckClause(c.c, c.vars); e != c.want {
			t.Errorf("%d: %d, want %d", i, e, c.want)
		}
	}
}

// rightFormulas: formulas that may be.
func rightFormulas() []api.Formula {
	return []api.Formula{
		{},
		{Clauses: []api.Clause{}},
		formula(0, nil, api.Clause{}),
		formula(api.MaxVars),
		formula(api.MaxVars, api.Clause{api.MaxVars, -api.MaxVars}),
		formula(3, api.Clause{1, 2}, api.Clause{-2, 3, 3}, nil, api.Clause{1, -1}),
		formula(1, slices.Repeat([]api.Clause{{1}}, api.MaxClauses)...),
		formula(2, repeated(2, api.MaxLits), repeated(-2, api.MaxLits)),
	}
}

type wrongFormula struct {
	f    api.Formula
	want api.Errno
}

// wrongFormulas: formulas that may not be, with the error that is told first.
func wrongFormulas() []wrongFormula {
	many := slices.Repeat([]api.Clause{{1}}, api.MaxClauses+1)
	long := repeated(1, api.MaxLits+1)
	return []wrongFormula{
		{formula(-1), api.ErrRange},
		{formula(api.MaxVars + 1), api.ErrRange},
		{formula(math.MaxInt), api.ErrRange},
		{formula(math.MinInt), api.ErrRange},
		{formula(1, many...), api.ErrMany},
		{formula(0, make([]api.Clause, 1000000)...), api.ErrMany},
		{formula(1, long), api.ErrMany},
		{formula(1, api.Clause{1}, long), api.ErrMany},
		{formula(0, api.Clause{1}), api.ErrWho},
		{formula(1, api.Clause{0}), api.ErrWho},
		{formula(1, api.Clause{1}, api.Clause{-1, 2}), api.ErrWho},
		{formula(api.MaxVars, api.Clause{api.MaxVars + 1}), api.ErrWho},
		{formula(api.MaxVars, api.Clause{-api.MaxVars - 1}), api.ErrWho},
		{formula(2, api.Clause{math.MinInt}), api.ErrWho},
		{formula(1, append(slices.Repeat([]api.Clause{{1}}, api.MaxClauses-1), api.Clause{-2})...), api.ErrWho},

		// Several at once: Vars, then how many, then the first clause's.
		{formula(-1, many...), api.ErrRange},
		{formula(-1, api.Clause{0}), api.ErrRange},
		{formula(api.MaxVars+1, long), api.ErrRange},
		{formula(0, many...), api.ErrMany},
		{formula(1, append([]api.Clause{{0}}, many...)...), api.ErrMany},
		{formula(1, api.Clause{0}, long), api.ErrWho},
		{formula(1, long, api.Clause{0}), api.ErrMany},
		{formula(0, long), api.ErrMany},
	}
}

func TestCheckTakes(t *testing.T) {
	for i, f := range rightFormulas() {
		if e := Check(f); e != api.OK {
			t.Errorf("%d: %d", i, e)
		}
	}
}

// TestRefusedFormulas: what is wrong with a formula comes ahead of what is wrong with a model, or with what is assumed.
func TestRefusedFormulas(t *testing.T) {
	for i, c := range wrongFormulas() {
		if e := Check(c.f); e != c.want {
			t.Errorf("Check of %d: %d, want %d", i, e, c.want)
		}
		for _, model := range [][]bool{nil, {true}, make([]bool, api.MaxVars+1)} {
			if got, e := Holds(c.f, model); got || e != c.want {
				t.Errorf("Holds of %d: %v, %d, want %d", i, got, e, c.want)
			}
		}
		for _, assumed := range [][]int{nil, {1}, {0}, {1, -1}, make([]int, api.MaxVars+1)} {
			if l, got, e := Follows(c.f, assumed); len(l) > 0 || got || e != c.want {
				t.Errorf("Follows of %d: %v, %v, %d, want %d", i, l, got, e, c.want)
			}
		}
	}
}

func TestHolds(t *testing.T) {
	const on, off = true, false
	for i, c := range []struct {
		f     api.Formula
		model []bool
		want  bool
	}{
		{formula(0), nil, true},
		{formula(0), []bool{}, true},
		{formula(2), []bool{off, on}, true},
		// In an empty clause none holds.
		{formula(0, nil), nil, false},
		{formula(1, api.Clause{1}, api.Clause{}), []bool{on}, false},

		{formula(1, api.Clause{1}), []bool{on}, true},
		{formula(1, api.Clause{1}), []bool{off}, false},
		{formula(1, api.Clause{-1}), []bool{on}, false},
		{formula(1, api.Clause{-1}), []bool{off}, true},
		{formula(1, api.Clause{1, 1}), []bool{off}, false},
		{formula(1, api.Clause{1, -1}), []bool{on}, true},
		{formula(1, api.Clause{1, -1}), []bool{off}, true},

		// One literal is enough, wherever it stands; all clauses are asked.
		{formula(3, api.Clause{1, 2, 3}), []bool{off, off, on}, true},
		{formula(3, api.Clause{1, -2, 3}), []bool{off, off, off}, true},
		{formula(3, api.Clause{1, -2, 3}), []bool{off, on, off}, false},
		{formula(3, api.Clause{1, 2}, api.Clause{-2, 3, 3}), []bool{on, off, off}, true},
		{formula(3, api.Clause{1, 2}, api.Clause{-2, 3, 3}), []bool{off, on, off}, false},
		{formula(3, api.Clause{1, 2}, api.Clause{-2, 3, 3}), []bool{off, off, off}, false},
		{formula(3, api.Clause{-2}, api.Clause{1}, api.Clause{3}), []bool{on, off, off}, false},
	} {
		if got, e := Holds(c.f, c.model); got != c.want || e != api.OK {
			t.Errorf("%d: %v, %d", i, got, e)
		}
	}
}

// TestHoldsOfTheLastVariable: place k - 1 is variable k's, up to the last one that may be.
func TestHoldsOfTheLastVariable(t *testing.T) {
	model := make([]bool, api.MaxVars)
	for k := range model {
		model[k] = true
		for v := 1; v <= api.MaxVars; v++ {
			if got, e := Holds(formula(api.MaxVars, api.Clause{v}), model); got != (v == k+1) || e != api.OK {
				t.Fatalf("variable %d, %d alone being true: %v, %d", v, k+1, got, e)
			}
		}
		model[k] = false
	}
}

func TestHoldsRefusesModels(t *testing.T) {
	for i, c := range []struct{ vars, size int }{{0, 1}, {1, 0}, {1, 2}, {3, 2}, {3, 4}, {3, 100000}, {api.MaxVars, api.MaxVars - 1}, {api.MaxVars, api.MaxVars + 1}} {
		for _, f := range []api.Formula{formula(c.vars), formula(c.vars, nil)} {
			if got, e := Holds(f, make([]bool, c.size)); got || e != api.ErrForm {
				t.Errorf("%d: %v, %d", i, got, e)
			}
		}
	}
}
