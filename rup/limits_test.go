package rup

import (
	"slices"
	"testing"

	"quartermaster/api"
)

// odd: of the first n variables both an odd number and an even one hold: others count along, once for each.
func odd(n int) api.Formula {
	f := api.Formula{Vars: n}
	for _, sign := range []int{1, -1} {
		sum := 1
		for v := 2; v <= n; v++ {
			f.Vars++
			f.Clauses = append(f.Clauses, api.Clause{-f.Vars, sum, v}, api.Clause{f.Vars, -sum, v}, api.Clause{f.Vars, sum, -v}, api.Clause{-f.Vars, -sum, -v})
			sum = f.Vars
		}
		f.Clauses = append(f.Clauses, api.Clause{sign * sum})
	}
	return f
}

// halves: that no values of the first n variables can be, then of one less, and so on down to none.
func halves(n int, literals ...int) []api.Clause {
	if n == 0 {
		return []api.Clause{literals}
	}
	v := len(literals) + 1
	proof := halves(n-1, append(slices.Clone(literals), v)...)
	proof = append(proof, halves(n-1, append(slices.Clone(literals), -v)...)...)
	return append(proof, literals)
}

// TestLongProof: nearly as long as may be.
func TestLongProof(t *testing.T) {
	p := halves(14)
	if len(p) != 1<<15-1 {
		t.Fatalf("%d clauses", len(p))
	}
	if got, e := Refutes(odd(15), p); !got || e != api.OK {
		t.Errorf("%v, %d", got, e)
	}
}

// TestGaps: of two clauses that close the halves of another one, one can be left out, as that comes at once where it is asked; both can't.
func TestGaps(t *testing.T) {
	f, p := odd(10), halves(9)
	first, second, last := 1<<9-2, 1<<10-3, 1<<10-2
	judged{f, p, -1, true}.ask(t, 0)
	judged{f, without(p, first), -1, true}.ask(t, 1)
	judged{f, without(p, second), -1, true}.ask(t, 2)
	judged{f, without(p, first, second), last - 2, false}.ask(t, 3)
	judged{f, without(p, 0), -1, true}.ask(t, 4)
	judged{f, without(p, 0, 1), 0, false}.ask(t, 5)
	judged{f, without(p, 3, 4), 3, false}.ask(t, 6)
	judged{f, without(p, last), -1, false}.ask(t, 7)
	f.Clauses = f.Clauses[1:]
	judged{f, p, firstBad(f, p), false}.ask(t, 8)
}

// without: the clauses of proof but those at these places.
func without(proof []api.Clause, places ...int) []api.Clause {
	var l []api.Clause
	for place, c := range proof {
		if !slices.Contains(places, place) {
			l = append(l, c)
		}
	}
	return l
}

// TestAtTheLimits: as many clauses, of as many literals, as may be.
func TestAtTheLimits(t *testing.T) {
	f := formula(api.MaxVars, many(api.MaxClauses, api.Clause{api.MaxVars - 1, api.MaxVars})...)
	d := &dice{state: 666}
	var p []api.Clause
	for range api.MaxProof - 1 {
		c := api.Clause{api.MaxVars, api.MaxVars - 1}
		for range api.MaxLits - 2 {
			c = append(c, (1+d.below(api.MaxVars-2))*(1-2*d.below(2)))
		}
		p = append(p, c)
	}
	judged{f, append(slices.Clone(p), repeated(api.MaxVars, api.MaxLits)), api.MaxProof - 1, false}.ask(t, 0)
	f.Clauses[api.MaxClauses-1] = repeated(-api.MaxVars, api.MaxLits)
	judged{f, append(slices.Clone(p), repeated(api.MaxVars-1, api.MaxLits)), -1, false}.ask(t, 1)
	f.Clauses[0] = api.Clause{1 - api.MaxVars}
	judged{f, append(p, nil), -1, true}.ask(t, 2)
}

// TestOneLineOfAll: what follows goes through all variables, against the order of the clauses.
func TestOneLineOfAll(t *testing.T) {
	f := formula(api.MaxVars)
	for v := api.MaxVars - 1; v > 0; v-- {
		f.Clauses = append(f.Clauses, api.Clause{-v, v + 1})
	}
	judged{f, proof(api.Clause{-1, api.MaxVars}), -1, false}.ask(t, 0)
	judged{f, proof(api.Clause{1, -api.MaxVars}), 0, false}.ask(t, 1)
	f.Clauses = append(f.Clauses, api.Clause{1}, api.Clause{-api.MaxVars})
	judged{f, proof(nil), -1, true}.ask(t, 2)
	f.Clauses[200] = nil
	judged{f, proof(nil), -1, true}.ask(t, 3)
	f.Clauses[200] = api.Clause{1}
	judged{f, proof(nil), 0, false}.ask(t, 4)
}
