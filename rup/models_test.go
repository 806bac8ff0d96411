package rup

import (
	"slices"
	"testing"

	"quartermaster/api"
	"quartermaster/cnf"
)

// dice gives numbers that look thrown, the same ones in each run.
type dice struct{ state uint32 }

func (d *dice) below(n int) int {
	d.state = d.state*1664525 + 1013904223
	return int(d.state>>8) % n
}

// clauses: at most so many, of least literals or some more.
func (d *dice) clauses(vars, most, least int) []api.Clause {
	var l []api.Clause
	for range d.below(most + 1) {
		var c api.Clause
		for range least + d.below(4) {
			c = append(c, (1+d.below(vars))*(1-2*d.below(2)))
		}
		l = append(l, c)
	}
	return l
}

// models: all those of f.
func models(t *testing.T, f api.Formula) [][]bool {
	t.Helper()
	var all [][]bool
	for bits := range 1 << f.Vars {
		model := make([]bool, f.Vars)
		for k := range model {
			model[k] = bits>>k&1 == 1
		}
		holds, e := cnf.Holds(f, model)
		if e != api.OK {
			t.Fatalf("%v: %d", f, e)
		}
		if holds {
			all = append(all, model)
		}
	}
	return all
}

// comes: does c come at once, told by the sets of different literals that can hold, all clauses again and again, the other signs being clauses of one literal?
func comes(clauses []api.Clause, c api.Clause) bool {
	all := slices.Clone(clauses)
	for _, literal := range c {
		all = append(all, api.Clause{-literal})
	}
	known := map[int]int{}
	for before := -1; before < len(known); {
		before = len(known)
		for _, c := range all {
			left := map[int]int{}
			for _, literal := range c {
				if known[-literal] == 0 {
					left[literal] = 1
				}
			}
			for literal := range left {
				if len(left) == 1 {
					known[literal] = 1
				}
			}
			if len(left) == 0 {
				return true
			}
		}
	}
	return false
}

// firstBad: Bad, by comes.
func firstBad(f api.Formula, proof []api.Clause) int {
	all := slices.Clone(f.Clauses)
	for place, c := range proof {
		if !comes(all, c) {
			return place
		}
		all = append(all, c)
	}
	return -1
}

// TestBadInEachModel: what comes at once holds in each model; and Bad against another way to say it. Each clause that doesn't come at once is left out of the next proof, so that some get long.
func TestBadInEachModel(t *testing.T) {
	d := &dice{state: 6}
	good, bad, empty := 0, 0, 0
	for range 1500 {
		f := api.Formula{Vars: 1 + d.below(6)}
		f.Clauses = d.clauses(f.Vars, 3*f.Vars, 1)
		all := models(t, f)
		proof := append(d.clauses(f.Vars, 8, 1), nil)
		for {
			want := firstBad(f, proof)
			at, e := Bad(f, proof)
			if at != want || e != api.OK {
				t.Fatalf("%v, %v: %d, %d, want %d", f, proof, at, e, want)
			}
			if at < 0 {
				break
			}
			proof = slices.Delete(proof, at, at+1)
			bad++
		}
		for _, model := range all {
			if holds, e := cnf.Holds(api.Formula{Vars: f.Vars, Clauses: proof}, model); !holds || e != api.OK {
				t.Fatalf("%v, %v: not in %v", f, proof, model)
			}
		}
		good += len(proof)
		if len(proof) > 0 && len(proof[len(proof)-1]) == 0 {
			empty++
		}
	}
	if min(good, bad) < 2000 || empty < 100 {
		t.Errorf("too much alike: %d came, %d didn't, %d empty ones came", good, bad, empty)
	}
}

// tried: a proof that there is no model of clauses of these variables, by trying all from literals on, both signs of a variable behind each other: of each try the clause that it can't be so.
func tried(clauses []api.Clause, vars []int, literals ...int) []api.Clause {
	var other api.Clause
	for _, literal := range literals {
		other = append(other, -literal)
	}
	if len(vars) == 0 || comes(clauses, other) {
		return []api.Clause{other}
	}
	var proof []api.Clause
	for _, literal := range []int{-vars[0], vars[0]} {
		proof = append(proof, tried(clauses, vars[1:], append(slices.Clone(literals), literal)...)...)
	}
	return append(proof, other)
}

// upTo: the variables from 1 to vars.
func upTo(vars int) []int {
	var l []int
	for v := 1; v <= vars; v++ {
		l = append(l, v)
	}
	return l
}

// TestRefutesWhatHasNoModel: P6.2: a proof by trying refutes just those that have none.
func TestRefutesWhatHasNoModel(t *testing.T) {
	d := &dice{state: 66}
	none, some, soon := 0, 0, 0
	for range 1500 {
		f := api.Formula{Vars: 2 + d.below(4)}
		f.Clauses = d.clauses(f.Vars, 20*f.Vars, 2)
		proof := tried(f.Clauses, upTo(f.Vars))
		got, e := Refutes(f, proof)
		if want := len(models(t, f)) == 0; got != want || e != api.OK {
			t.Fatalf("%v, %v: %v, %d, want %v", f, proof, got, e, want)
		}
		switch {
		case !got:
			some++
		case len(proof) == 1:
			soon++
		default:
			none++
		}
		if got, e := Refutes(f, proof[:len(proof)-1]); got || e != api.OK {
			t.Fatalf("%v, %v without its end: %v, %d", f, proof, got, e)
		}
	}
	if min(none, some, soon) < 100 {
		t.Errorf("too much alike: %d with a model, %d without, %d of them at once", some, none+soon, soon)
	}
}
