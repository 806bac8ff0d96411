package follow

import (
	"slices"
	"testing"

	"quartermaster/api"
)

// told: what must follow, and whether it stands.
type told struct {
	from, want []int
	ok         bool
}

func (w told) ask(t *testing.T, x *Clauses) {
	t.Helper()
	if got, ok := x.From(w.from...); !slices.Equal(got, w.want) || ok != w.ok {
		t.Errorf("from %v: %v, %v, want %v, %v", w.from, got, ok, w.want, w.ok)
	}
}

// TestAdd: clauses that come later have the same say as those ahead of them, and what was asked leaves nothing behind.
func TestAdd(t *testing.T) {
	x := New(3)
	told{nil, nil, true}.ask(t, x)
	told{[]int{-3, 1}, []int{1, -3}, true}.ask(t, x)
	told{[]int{1, -1}, nil, false}.ask(t, x)
	told{[]int{1}, []int{1}, true}.ask(t, x)

	x.Add(api.Clause{-1, 2}, api.Clause{-2, 3, 3})
	told{nil, nil, true}.ask(t, x)
	told{[]int{1}, []int{1, 2, 3}, true}.ask(t, x)
	told{[]int{1, -3}, nil, false}.ask(t, x)
	told{[]int{-3}, []int{-1, -2, -3}, true}.ask(t, x)

	x.Add()
	x.Add(api.Clause{1, 1})
	told{nil, []int{1, 2, 3}, true}.ask(t, x)
	told{[]int{-2}, nil, false}.ask(t, x)
	told{nil, []int{1, 2, 3}, true}.ask(t, x)

	x.Add(api.Clause{})
	told{nil, nil, false}.ask(t, x)
	told{[]int{1}, nil, false}.ask(t, x)
}

// TestMoreThanAFormulaHas: as a formula and a proof have together.
func TestMoreThanAFormulaHas(t *testing.T) {
	x := New(api.MaxVars)
	for k := range api.MaxClauses + api.MaxProof {
		v := 1 + k%(api.MaxVars-1)
		x.Add(api.Clause{-v, v + 1})
	}
	var all, none []int
	for v := 1; v <= api.MaxVars; v++ {
		all, none = append(all, v), append(none, -v)
	}
	told{nil, nil, true}.ask(t, x)
	told{[]int{1}, all, true}.ask(t, x)
	told{[]int{-api.MaxVars}, none, true}.ask(t, x)
	told{[]int{-api.MaxVars, 1}, nil, false}.ask(t, x)
}
