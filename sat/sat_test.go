package sat

import (
	"math"
	"reflect"
	"slices"
	"testing"

	"quartermaster/api"
)

// formula: these clauses, of variables from 1 to vars.
func formula(vars int, clauses ...api.Clause) api.Formula {
	return api.Formula{Vars: vars, Clauses: clauses}
}

// repeated: a clause of n times literal.
func repeated(literal, n int) api.Clause { return slices.Repeat(api.Clause{literal}, n) }

// contrary: no model, but nothing follows from no literals.
func contrary() api.Formula {
	return formula(2, api.Clause{1, 2}, api.Clause{-1, 2}, api.Clause{1, -2}, api.Clause{-1, -2})
}

// bits: a model, 1 being true.
func bits(text string) []bool {
	var m []bool
	for _, b := range text {
		m = append(m, b == '1')
	}
	return m
}

// solved: what must be answered of a formula, and how many steps that takes.
type solved struct {
	f     api.Formula
	model []bool
	proof []api.Clause
	steps int
}

func (w solved) ask(t *testing.T, i int) {
	t.Helper()
	for _, steps := range []int{w.steps, w.steps + 1, api.MaxSteps} {
		a, e := Solve(w.f, min(steps, api.MaxSteps))
		if e != api.OK || !slices.Equal(a.Model, w.model) || !slices.EqualFunc(a.Proof, w.proof, slices.Equal) {
			t.Errorf("%d, in %d steps: %v, %d, want %v, %v", i, steps, a, e, w.model, w.proof)
		}
	}
	if w.steps > 1 {
		refused(t, i, w.f, w.steps-1, api.ErrSteps)
		refused(t, i, w.f, 1, api.ErrSteps)
	}
}

func refused(t *testing.T, i int, f api.Formula, steps int, want api.Errno) {
	t.Helper()
	if a, e := Solve(f, steps); e != want || a.Model != nil || a.Proof != nil {
		t.Errorf("%d, in %d steps: %v, %d, want %d", i, steps, a, e, want)
	}
}

func TestModels(t *testing.T) {
	for i, w := range []solved{
		// Each variable that is tried is false first, the lowest one ahead.
		{f: formula(0), steps: 1},
		{f: formula(1), model: bits("0"), steps: 2},
		{f: formula(3), model: bits("000"), steps: 4},
		{f: formula(2, api.Clause{1, 2}), model: bits("01"), steps: 2},
		{f: formula(2, api.Clause{2, 1}), model: bits("01"), steps: 2},
		{f: formula(3, api.Clause{1, 2, 3}), model: bits("001"), steps: 3},
		{f: formula(3, api.Clause{1, 2}, api.Clause{1, 3}), model: bits("011"), steps: 2},
		{f: formula(3, api.Clause{1, -2}, api.Clause{2, 3}, api.Clause{-3, 1, -1}), model: bits("001"), steps: 2},

		// What follows isn't tried, and no step takes it.
		{f: formula(1, api.Clause{1}), model: bits("1"), steps: 1},
		{f: formula(1, api.Clause{1, 1}), model: bits("1"), steps: 1},
		{f: formula(3, api.Clause{1}, api.Clause{-1, -3}), model: bits("100"), steps: 2},
		{f: formula(4, api.Clause{2}, api.Clause{-2, 4}), model: bits("0101"), steps: 3},
		{f: formula(3, api.Clause{3}, api.Clause{-3, 1}, api.Clause{-1, -2}), model: bits("101"), steps: 1},

		// True, where false is closed: at once, or by steps.
		{f: formula(2, contrary().Clauses[:2]...), model: bits("01"), steps: 2},
		{f: formula(2, api.Clause{1, 2}, api.Clause{1, -2}), model: bits("10"), steps: 4},
		{f: formula(2, contrary().Clauses[:3]...), model: bits("11"), steps: 3},
		{f: formula(3, api.Clause{1, 2, 3}, api.Clause{1, 2, -3}, api.Clause{1, -2, 3}, api.Clause{1, -2, -3}), model: bits("100"), steps: 7},
		{f: formula(3, api.Clause{1, 2, 3}, api.Clause{1, 2, -3}), model: bits("010"), steps: 5},

		// A clause that always holds says nothing.
		{f: formula(2, api.Clause{1, -1}, api.Clause{2, 1, -2}), model: bits("00"), steps: 3},
	} {
		w.ask(t, i)
	}
}

func TestProofs(t *testing.T) {
	for i, w := range []solved{
		{f: formula(0, nil), proof: []api.Clause{nil}, steps: 1},
		{f: formula(3, api.Clause{2}, api.Clause{}), proof: []api.Clause{nil}, steps: 1},
		{f: formula(1, api.Clause{1}, api.Clause{-1}), proof: []api.Clause{nil}, steps: 1},
		{f: formula(3, api.Clause{1}, api.Clause{-1, 2}, api.Clause{-2, 3}, api.Clause{-3, -1}), proof: []api.Clause{nil}, steps: 1},
		{f: contrary(), proof: []api.Clause{{1}, {-1}, nil}, steps: 3},

		// The clauses of the halves stand ahead of that of the whole; the literals are in the order of their steps.
		{
			f:     formula(3, append(contrary().Clauses[:2:2], api.Clause{1, -2, 3}, api.Clause{1, -2, -3}, api.Clause{-1, -2})...),
			proof: []api.Clause{{1}, {-1}, nil},
			steps: 3,
		},
		{
			f:     formula(4, api.Clause{1, 3, 4}, api.Clause{1, 3, -4}, api.Clause{1, -3, 4}, api.Clause{1, -3, -4}, api.Clause{-1, 2}, api.Clause{-1, -2}),
			proof: []api.Clause{{1, 2, 3}, {1, 2, -3}, {1, 2}, {1, -2, 3}, {1, -2, -3}, {1, -2}, {1}, {-1}, nil},
			steps: 9,
		},
		// No step takes 2, which follows from -1, nor 1, which follows from none.
		{
			f:     formula(4, api.Clause{1, 2}, api.Clause{3, 4}, api.Clause{-3, 4}, api.Clause{3, -4}, api.Clause{-3, -4}),
			proof: []api.Clause{{1, 3}, {1, -3}, {1}, {-1, 2, 3}, {-1, 2, -3}, {-1, 2}, {-1, -2, 3}, {-1, -2, -3}, {-1, -2}, {-1}, nil},
			steps: 11,
		},
		{
			f:     formula(3, api.Clause{1}, api.Clause{-1, 2, 3}, api.Clause{-2, 3}, api.Clause{2, -3}, api.Clause{-1, -2, -3}),
			proof: []api.Clause{{2}, {-2}, nil},
			steps: 3,
		},
	} {
		w.ask(t, i)
	}
}

type wrongFormula struct {
	f    api.Formula
	want api.Errno
}

// wrongFormulas with the error that is told first.
func wrongFormulas() []wrongFormula {
	many := slices.Repeat([]api.Clause{{1}}, api.MaxClauses+1)
	return []wrongFormula{
		{formula(-1), api.ErrRange},
		{formula(api.MaxVars + 1), api.ErrRange},
		{formula(math.MinInt), api.ErrRange},
		{formula(math.MaxInt), api.ErrRange},
		{formula(1, many...), api.ErrMany},
		{formula(1, repeated(1, api.MaxLits+1)), api.ErrMany},
		{formula(1, api.Clause{2}), api.ErrWho},
		{formula(2, nil, api.Clause{1}, api.Clause{2, 0}), api.ErrWho},
		{formula(2, api.Clause{-3}), api.ErrWho},
		{formula(2, api.Clause{math.MinInt}), api.ErrWho},
		{formula(0, api.Clause{1}), api.ErrWho},
		{formula(-1, many...), api.ErrRange},
		{formula(0, many...), api.ErrMany},
		{formula(1, api.Clause{0}, repeated(1, api.MaxLits+1)), api.ErrWho},
	}
}

// TestRefuses: what is wrong with a formula comes ahead of what is wrong with steps, and both ahead of any step.
func TestRefuses(t *testing.T) {
	wrong := []int{0, -1, api.MaxSteps + 1, math.MinInt, math.MaxInt}
	for i, c := range wrongFormulas() {
		for _, steps := range append([]int{1, 9, api.MaxSteps}, wrong...) {
			refused(t, i, c.f, steps, c.want)
		}
	}
	for i, f := range []api.Formula{formula(0), formula(0, nil), formula(3), contrary()} {
		for _, steps := range wrong {
			refused(t, i, f, steps, api.ErrRange)
		}
	}
}

// TestTooManyLiterals: a step may be from api.MaxLits literals, but from no more; those that follow aren't counted.
func TestTooManyLiterals(t *testing.T) {
	most := api.MaxLits
	solved{f: formula(most), model: make([]bool, most), steps: most + 1}.ask(t, 0)
	refused(t, 1, formula(most+1), api.MaxSteps, api.ErrSteps)
	refused(t, 2, formula(api.MaxVars), api.MaxSteps, api.ErrSteps)

	f := formula(api.MaxVars)
	for v := most; v < api.MaxVars; v++ {
		f.Clauses = append(f.Clauses, api.Clause{v, -v - 1})
	}
	solved{f: f, model: make([]bool, api.MaxVars), steps: most + 1}.ask(t, 3)
	refused(t, 4, formula(api.MaxVars, f.Clauses[1:]...), api.MaxSteps, api.ErrSteps)

	f.Clauses = append(f.Clauses, api.Clause{-1}, api.Clause{2})
	f.Clauses = f.Clauses[2:]
	model := make([]bool, api.MaxVars)
	model[1] = true
	solved{f: f, model: model, steps: most + 1}.ask(t, 5)
}

// ladder: none of the first n variables can be true, nor can the last of them be false; but that shows only when it is tried.
func ladder(n int) api.Formula {
	f := formula(n+1, api.Clause{n, n + 1}, api.Clause{n, -n - 1})
	for v := 1; v <= n; v++ {
		f.Clauses = append(f.Clauses, api.Clause{-v, n + 1}, api.Clause{-v, -n - 1})
	}
	return f
}

// down: what closes the steps of a ladder, from the deepest one up.
func down(n int) []api.Clause {
	c := api.Clause{}
	for v := 1; v <= n; v++ {
		c = append(c, v)
	}
	proof := []api.Clause{c}
	for v := n; v > 0; v-- {
		proof = append(proof, append(slices.Clone(c[:v-1]), -v), c[:v-1])
	}
	return proof
}

// TestClosedDeepest: a step from as many literals as may be can be closed, and its clause is as long as one may be.
func TestClosedDeepest(t *testing.T) {
	for n := 1; n <= api.MaxLits; n++ {
		solved{f: ladder(n), proof: down(n), steps: 2*n + 1}.ask(t, n)
	}
	refused(t, -1, ladder(api.MaxLits+1), api.MaxSteps, api.ErrSteps)

	n := api.MaxLits
	model := make([]bool, n+1)
	model[n-1], model[n] = true, true
	f := formula(n+1, api.Clause{n, n + 1}, api.Clause{n, -n - 1}, api.Clause{-n, n + 1})
	solved{f: f, model: model, steps: n + 2}.ask(t, -2)
}

// TestOnlyRead: neither lists that are handed in nor the room behind them are changed; what was asked leaves nothing behind.
func TestOnlyRead(t *testing.T) {
	lay := func() []api.Clause {
		return []api.Clause{{2, 1, 2, 9}, {-1, 2, 9}, {-2, 1, 1, 9}, {-2, -1, 9}, {9}}
	}
	given := lay()
	room := slices.Clone(given)
	for k := range room {
		room[k] = room[k][:len(room[k])-1]
	}
	for range 2 {
		solved{f: formula(2, room[:4]...), proof: []api.Clause{{1}, {-1}, nil}, steps: 3}.ask(t, 0)
		solved{f: formula(2, room[:3]...), model: bits("11"), steps: 3}.ask(t, 1)
	}
	if !reflect.DeepEqual(given, lay()) || len(room[4]) > 0 || cap(room[4]) != 1 {
		t.Errorf("changed: %v", given)
	}
}

// TestNewMemory: no clause of a proof has a say in another one, or in what is answered next, not even through the room behind it.
func TestNewMemory(t *testing.T) {
	f := formula(4, api.Clause{1, 3, 4}, api.Clause{1, 3, -4}, api.Clause{1, -3, 4}, api.Clause{1, -3, -4}, api.Clause{-1, 2}, api.Clause{-1, -2})
	first, _ := Solve(f, 9)
	want, _ := Solve(f, 9)
	for i, c := range first.Proof {
		for k := range c[:cap(c)] {
			c[:cap(c)][k] = 99
		}
		for j, other := range first.Proof[i+1:] {
			if !slices.Equal(other, want.Proof[i+1+j]) {
				t.Fatalf("clause %d changes with %d", i+1+j, i)
			}
		}
	}
	if again, _ := Solve(f, 9); !reflect.DeepEqual(again, want) {
		t.Errorf("%v, then %v", want, again)
	}
}
