package follow

import (
	"slices"
	"testing"

	"quartermaster/api"
)

// told: what must follow, and whether it stands.
type told struct {
	from, want []int
	ok         bool
}

func (w told) ask(t *testing.T, x *Clauses) {
	t.Helper()
	if got, ok := x.From(w.from...); !slices.Equal(got, w.want) || ok != w.ok {
		t.Errorf("from %v: %v, %v, want %v, %v", w.from, got, ok, w.want, w.ok)
	}
}

// TestAdd: clauses that come later have the same say as those ahead of them, and what was asked leaves nothing behind.
func TestAdd(t *testing.T) {
	x := New(3)
	told{nil, nil, true}.ask(t, x)
	told{[]int{-3, 1}, []int{1, -3}, true}.ask(t, x)
	told{[]int{1, -1}, nil, false}.ask(t, x)
	told{[]int{1}, []int{1}, true}.ask(t, x)

	x.Add(api.Clause{-1, 2}, api.Clause{-2, 3, 3})
	told{nil, nil, true}.ask(t, x)
	told{[]int{1}, []int{1, 2, 3}, true}.ask(t, x)
	told{[]int{1, -3}, nil, false}.ask(t, x)
	told{[]int{-3}, []int{-1, -2, -3}, true}.ask(t, x)

	x.Add()
	x.Add(api.Clause{1, 1})
	told{nil, []int{1, 2, 3}, true}.ask(t, x)
	told{[]int{-2}, nil, false}.ask(t, x)
	told{nil, []int{1, 2, 3}, true}.ask(t, x)

	x.Add(api.Clause{})
	told{nil, nil, false}.ask(t, x)
	told{[]int{1}, nil, false}.ask(t, x)
}

// TestMoreThanAFormulaHas: as a formula and a proof have together.
func TestMoreThanAFormulaHas(t *testing.T) {
	x := New(api.MaxVars)
	for k := range api.MaxClauses + api.MaxProof {
		v := 1 + k%(api.MaxVars-1)
		x.Add(api.Clause{-v, v + 1})
	}
	var all, none []int
	for v := 1; v <= api.MaxVars; v++ {
		all, none = append(all, v), append(none, -v)
	}
	told{nil, nil, true}.ask(t, x)
	told{[]int{1}, all, true}.ask(t, x)
	told{[]int{-api.MaxVars}, none, true}.ask(t, x)
	told{[]int{-api.MaxVars, 1}, nil, false}.ask(t, x)
}

// bySets: From, told by the sets of different literals that can hold, all clauses again and again, what is assumed being clauses of one literal.
func bySets(vars int, clauses []api.Clause, literals []int) ([]int, bool) {
	all := slices.Clone(clauses)
	for _, literal := range literals {
		all = append(all, api.Clause{literal})
	}
	known := map[int]int{}
	for before := -1; before < len(known); {
		before = len(known)
		for _, c := range all {
			left := map[int]int{}
			for _, literal := range c {
				if known[-literal] == 0 {
					left[literal] = 1
				}
			}
			for literal := range left {
				if len(left) == 1 {
					known[literal] = 1
				}
			}
			if len(left) == 0 {
				return nil, false
			}
		}
	}
	var l []int
	for v := 1; v <= vars; v++ {
		if known[v]+known[-v] == 1 {
			l = append(l, v*(known[v]-known[-v]))
		}
	}
	return l, true
}

// dice gives numbers that look thrown, the same ones in each run.
type dice struct{ state uint32 }

func (d *dice) below(n int) int {
	d.state = d.state*1664525 + 1013904223
	return int(d.state>>8) % n
}

func (d *dice) literals(vars, least, more int) []int {
	var l []int
	for range least + d.below(more+1) {
		l = append(l, (1+d.below(vars))*(1-2*d.below(2)))
	}
	return l
}

// TestAskedInBetween: what was asked while clauses came has no say in what is asked later, nor has what becomes of a list that was added.
func TestAskedInBetween(t *testing.T) {
	d := &dice{state: 7}
	grown, failed := 0, 0
	for range 300 {
		vars := 3 + d.below(8)
		x := New(vars)
		var clauses []api.Clause
		for range 4 * vars {
			c := api.Clause(d.literals(vars, 1+d.below(3), 4))
			clauses = append(clauses, slices.Clone(c))
			x.Add(c)
			clear(c)
			for range 4 {
				from := d.literals(vars, 0, 4)
				want, ok := bySets(vars, clauses, from)
				told{from, want, ok}.ask(t, x)
				if !ok {
					failed++
				}
				if len(want) > len(from) {
					grown++
				}
			}
		}
	}
	if min(grown, failed) < 2000 {
		t.Errorf("too much alike: %d times more was known, %d times it failed", grown, failed)
	}
}
