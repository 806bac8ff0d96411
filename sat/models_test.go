package sat

import (
	"slices"
	"testing"

	"quartermaster/api"
	"quartermaster/cnf"
	"quartermaster/rup"
)

// dice gives numbers that look thrown, the same ones in each run.
type dice struct{ state uint32 }

func (d *dice) below(n int) int {
	d.state = d.state*1664525 + 1013904223
	return int(d.state>>8) % n
}

// clauses: so many, of so many literals, some of them twice.
func (d *dice) clauses(vars, many, length int) []api.Clause {
	var l []api.Clause
	for range many {
		var c api.Clause
		for range length {
			c = append(c, (1+d.below(vars))*(1-2*d.below(2)))
		}
		l = append(l, c)
	}
	return l
}

// leastModel of f, by asking all in order; nil: there is none.
func leastModel(t *testing.T, f api.Formula) []bool {
	t.Helper()
	for number := range 1 << f.Vars {
		model := make([]bool, f.Vars)
		for k := range model {
			model[k] = number>>(f.Vars-1-k)&1 == 1
		}
		holds, e := cnf.Holds(f, model)
		if e != api.OK {
			t.Fatalf("%v: %d", f, e)
		}
		if holds {
			return model
		}
	}
	return nil
}

// walked: how many steps began, and what is closed, told without calls in calls: the steps that are still to be begun, and those that are closed when it is their turn, lie on a pile, the next one on top.
func walked(t *testing.T, f api.Formula) (steps int, closed []api.Clause) {
	t.Helper()
	type turn struct {
		literals []int
		close    bool
	}
	turns := []turn{{}}
	for len(turns) > 0 {
		next := turns[len(turns)-1]
		turns = turns[:len(turns)-1]
		known, ok, e := []int(nil), false, api.OK
		if !next.close {
			steps++
			known, ok, e = cnf.Follows(f, next.literals)
		}
		switch {
		case e != api.OK:
			t.Fatalf("%v: %d", f, e)
		case ok && len(known) == f.Vars:
			return steps, closed
		case !ok:
			c := slices.Clone(next.literals)
			for k := range c {
				c[k] = -c[k]
			}
			closed = append(closed, c)
		default:
			k := 1
			for slices.Contains(known, k) || slices.Contains(known, -k) {
				k++
			}
			with := func(literal int) []int { return append(slices.Clone(next.literals), literal) }
			turns = append(turns, turn{next.literals, true}, turn{literals: with(k)}, turn{literals: with(-k)})
		}
	}
	return steps, closed
}

// TestLeastModelOrProof: P7.1 and P7.2: against all models, against the steps told another way, and against chapter 6.
func TestLeastModelOrProof(t *testing.T) {
	d := &dice{state: 7}
	models, proofs, long := 0, 0, 0
	for range 3000 {
		f := api.Formula{Vars: 1 + d.below(11)}
		f.Clauses = d.clauses(f.Vars, f.Vars*d.below(20), 2+d.below(3))
		want := leastModel(t, f)
		steps, closed := walked(t, f)
		a := solvedIn(t, f, steps)
		if !slices.Equal(a.Model, want) {
			t.Fatalf("%v: %v, want %v", f, a.Model, want)
		}
		if want != nil {
			models++
			continue
		}
		proofs++
		if !slices.EqualFunc(a.Proof, closed, slices.Equal) {
			t.Fatalf("%v: %v, want %v", f, a.Proof, closed)
		}
		if refutes, e := rup.Refutes(f, a.Proof); !refutes || e != api.OK {
			t.Fatalf("%v, %v: %v, %d", f, a.Proof, refutes, e)
		}
		if len(a.Proof) > 9 {
			long++
		}
	}
	if min(models, proofs) < 500 || long < 100 {
		t.Errorf("too much alike: %d models, %d proofs, %d of them long", models, proofs, long)
	}
}

// solvedIn: what is answered with just as many steps as are needed; with one less there are too few; with more it is the same. There is a model or a proof, not both.
func solvedIn(t *testing.T, f api.Formula, steps int) api.Answer {
	t.Helper()
	a, e := Solve(f, steps)
	if e != api.OK || (a.Model == nil) == (a.Proof == nil) {
		t.Fatalf("%v in %d steps: %v, %d", f, steps, a, e)
	}
	if steps > 1 {
		refused(t, steps, f, steps-1, api.ErrSteps)
	}
	more, e := Solve(f, api.MaxSteps)
	if e != api.OK || !slices.Equal(more.Model, a.Model) || !slices.EqualFunc(more.Proof, a.Proof, slices.Equal) {
		t.Fatalf("%v: %v in %d steps, %v in more, %d", f, a, steps, more, e)
	}
	return a
}

// odd: of the first n variables both an odd number and an even one hold: others count along, once for each.
func odd(n int) api.Formula {
	f := api.Formula{Vars: n}
	for _, sign := range []int{1, -1} {
		sum := 1
		for v := 2; v <= n; v++ {
			f.Vars++
			f.Clauses = append(f.Clauses, api.Clause{-f.Vars, sum, v}, api.Clause{f.Vars, -sum, v}, api.Clause{f.Vars, sum, -v}, api.Clause{-f.Vars, -sum, -v})
			sum = f.Vars
		}
		f.Clauses = append(f.Clauses, api.Clause{sign * sum})
	}
	return f
}

// TestManySteps: nearly as many as there may be, and then more.
func TestManySteps(t *testing.T) {
	a := solvedIn(t, odd(15), 1<<15-1)
	if refutes, e := rup.Refutes(odd(15), a.Proof); !refutes || e != api.OK || len(a.Proof) != 1<<15-1 {
		t.Errorf("%v, %d, of %d clauses", refutes, e, len(a.Proof))
	}
	refused(t, 16, odd(16), api.MaxSteps, api.ErrSteps)
}

// TestAllVariables: a model of as many as may be, and no step but the first; or one that can't be.
func TestAllVariables(t *testing.T) {
	f := api.Formula{Vars: api.MaxVars}
	want := make([]bool, f.Vars)
	for v := api.MaxVars - 1; v > 0; v-- {
		f.Clauses = append(f.Clauses, api.Clause{-v, v + 1})
	}
	refused(t, 0, f, 1, api.ErrSteps)
	refused(t, 1, f, api.MaxSteps, api.ErrSteps)
	f.Clauses = append(f.Clauses, api.Clause{1})
	for k := range want {
		want[k] = true
	}
	solved{f: f, model: want, steps: 1}.ask(t, 2)
	for len(f.Clauses) < api.MaxClauses {
		f.Clauses = append(f.Clauses, repeated(api.MaxVars, api.MaxLits))
	}
	solved{f: f, model: want, steps: 1}.ask(t, 3)
	f.Clauses[api.MaxClauses-1] = repeated(-1, api.MaxLits)
	solved{f: f, proof: []api.Clause{nil}, steps: 1}.ask(t, 4)
}
