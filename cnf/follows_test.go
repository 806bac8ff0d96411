package cnf

import (
	"math"
	"reflect"
	"slices"
	"testing"

	"quartermaster/api"
)

func TestFollows(t *testing.T) {
	chain := formula(4, api.Clause{-1, 2}, api.Clause{-2, 3}, api.Clause{-3, 4})
	for i, c := range []struct {
		f       api.Formula
		assumed []int
		want    []int
	}{
		{formula(0), nil, nil},
		{formula(0), []int{}, nil},
		{formula(3), nil, nil},
		// What stands in no clause is a literal all the same.
		{formula(3), []int{2}, []int{2}},
		{formula(api.MaxVars), []int{-api.MaxVars, api.MaxVars - 1}, []int{api.MaxVars - 1, -api.MaxVars}},

		// By variable, whatever the sign, each once.
		{formula(4), []int{4, -2, 3, -1}, []int{-1, -2, 3, 4}},
		{formula(4), []int{4, 4, -2, 4, -2}, []int{-2, 4}},

		// A clause of one literal says it whatever is known.
		{formula(2, api.Clause{2}), nil, []int{2}},
		{formula(2, api.Clause{-2}), []int{1}, []int{1, -2}},
		{formula(2, api.Clause{2}), []int{2}, []int{2}},
		{formula(2, repeated(-2, api.MaxLits)), nil, []int{-2}},

		// All but one don't hold.
		{formula(3, api.Clause{1, 2, 3}), []int{-1}, []int{-1}},
		{formula(3, api.Clause{1, 2, 3}), []int{-1, -3}, []int{-1, 2, -3}},
		{formula(3, api.Clause{1, 2, 3}), []int{-1, 3}, []int{-1, 3}},
		{formula(3, api.Clause{1, 2, 3}), []int{1, -2}, []int{1, -2}},
		{formula(3, api.Clause{1, -2, 3}), []int{-1, -3}, []int{-1, -2, -3}},

		// One that is there twice is one, wherever it stands.
		{formula(2, api.Clause{1, 2, 2}), []int{-1}, []int{-1, 2}},
		{formula(2, api.Clause{2, 1, 2}), []int{-1}, []int{-1, 2}},
		{formula(2, api.Clause{2, 2, 1, 1}), []int{-1}, []int{-1, 2}},
		{formula(3, api.Clause{2, 3, 2, 3}), []int{1}, []int{1}},

		// Both signs of one are two literals.
		{formula(1, api.Clause{1, -1}), nil, nil},
		{formula(1, api.Clause{1, -1}), []int{1}, []int{1}},
		{formula(1, api.Clause{1, -1}), []int{-1}, []int{-1}},
		{formula(2, api.Clause{1, -1, 2}), []int{-2}, []int{-2}},
		{formula(2, api.Clause{1, -1, 2}), []int{1}, []int{1}},

		// Again and again, against the order of the clauses, too.
		{chain, nil, nil},
		{chain, []int{1}, []int{1, 2, 3, 4}},
		{chain, []int{3}, []int{3, 4}},
		{chain, []int{-4}, []int{-1, -2, -3, -4}},
		{chain, []int{-3}, []int{-1, -2, -3}},
		{formula(4, append(slices.Clone(chain.Clauses), api.Clause{1})...), nil, []int{1, 2, 3, 4}},

		// What can't be otherwise, but by trying, doesn't follow.
		{formula(2, api.Clause{1, 2}, api.Clause{1, -2}), nil, nil},
		{formula(2, api.Clause{1, 2}, api.Clause{1, -2}, api.Clause{-1, 2}, api.Clause{-1, -2}), nil, nil},
	} {
		if got, ok, e := Follows(c.f, c.assumed); !slices.Equal(got, c.want) || !ok || e != api.OK {
			t.Errorf("%d: %v, %v, %d, want %v", i, got, ok, e, c.want)
		}
	}
}

func TestFollowsFails(t *testing.T) {
	chain := formula(4, api.Clause{-1, 2}, api.Clause{-2, 3}, api.Clause{-3, 4})
	for i, c := range []struct {
		f       api.Formula
		assumed []int
	}{
		// Two don't agree.
		{formula(1), []int{1, -1}},
		{formula(1), []int{-1, 1}},
		{formula(3), []int{3, 1, 2, -3}},
		{formula(1, api.Clause{1, -1}), []int{1, -1}},
		// No literal of a clause can hold.
		{formula(0, nil), nil},
		{formula(2, api.Clause{1}, api.Clause{}), nil},
		{formula(2, api.Clause{1, 2}), []int{-1, -2}},
		{formula(2, api.Clause{1, 1, 1}), []int{-1}},
		{formula(1, api.Clause{1}), []int{-1}},
		{formula(1, api.Clause{1}, api.Clause{-1}), nil},
		{formula(1, api.Clause{-1, -1}, api.Clause{1, 1}), nil},
		// By what follows.
		{chain, []int{1, -4}},
		{chain, []int{-4, 1}},
		{chain, []int{2, -3}},
		{formula(4, append(slices.Clone(chain.Clauses), api.Clause{1}, api.Clause{-4})...), nil},
		{formula(2, api.Clause{1, 2}, api.Clause{1, -2}), []int{-1}},
		{formula(2, api.Clause{1, 2}, api.Clause{1, -2}, api.Clause{-1, 2}, api.Clause{-1, -2}), []int{1}},
	} {
		if got, ok, e := Follows(c.f, c.assumed); len(got) > 0 || ok || e != api.OK {
			t.Errorf("%d: %v, %v, %d", i, got, ok, e)
		}
	}
}

func TestFollowsRefuses(t *testing.T) {
	for i, c := range []struct {
		f       api.Formula
		assumed []int
		want    api.Errno
	}{
		{formula(1), slices.Repeat([]int{1}, api.MaxVars+1), api.ErrMany},
		{formula(1), make([]int, 1000000), api.ErrMany},
		{formula(0), []int{0}, api.ErrWho},
		{formula(0), []int{1}, api.ErrWho},
		{formula(0), []int{-1}, api.ErrWho},
		{formula(3), []int{4}, api.ErrWho},
		{formula(3), []int{-4}, api.ErrWho},
		{formula(3), []int{1, 2, 3, 0}, api.ErrWho},
		{formula(3), []int{math.MinInt}, api.ErrWho},
		{formula(3), []int{math.MaxInt}, api.ErrWho},
		{formula(1), append(slices.Repeat([]int{1}, api.MaxVars-1), 2), api.ErrWho},

		// How many there are comes first; an error comes ahead of false.
		{formula(1), slices.Repeat([]int{2}, api.MaxVars+1), api.ErrMany},
		{formula(1), []int{1, -1, 2}, api.ErrWho},
		{formula(1, nil), []int{2}, api.ErrWho},
		{formula(1, nil), slices.Repeat([]int{1}, api.MaxVars+1), api.ErrMany},
	} {
		if got, ok, e := Follows(c.f, c.assumed); len(got) > 0 || ok || e != c.want {
			t.Errorf("%d: %v, %v, %d, want %d", i, got, ok, e, c.want)
		}
	}
	if got, ok, e := Follows(formula(1), slices.Repeat([]int{-1}, api.MaxVars)); !slices.Equal(got, []int{-1}) || !ok || e != api.OK {
		t.Errorf("as many as may be: %v, %v, %d", got, ok, e)
	}
}

// full: a formula of as many clauses, of as many literals, as may be: if variable 1 is false, the one behind it is, and so on; what follows last stands first.
func full() api.Formula {
	f := api.Formula{Vars: api.MaxVars}
	for k := range api.MaxClauses {
		v := api.MaxVars - k%api.MaxVars
		c := make(api.Clause, 0, api.MaxLits)
		for back := api.MaxLits - 1; back > 0; back-- {
			c = append(c, max(v-back, 1))
		}
		f.Clauses = append(f.Clauses, append(c, -v))
	}
	return f
}

func TestFollowsAtItsLimits(t *testing.T) {
	var want []int
	for v := 1; v <= api.MaxVars; v++ {
		want = append(want, -v)
	}
	f := full()
	if got, ok, e := Follows(f, []int{-1}); !slices.Equal(got, want) || !ok || e != api.OK {
		t.Errorf("%v, %v, %d", got, ok, e)
	}
	if got, ok, e := Follows(f, want); !slices.Equal(got, want) || !ok || e != api.OK {
		t.Errorf("all assumed: %v, %v, %d", got, ok, e)
	}
	if got, ok, e := Follows(f, []int{-1, api.MaxVars}); len(got) > 0 || ok || e != api.OK {
		t.Errorf("the last one otherwise: %v, %v, %d", got, ok, e)
	}
}

// dice gives numbers that look thrown, the same ones in each run.
type dice struct{ state uint32 }

func (d *dice) below(n int) int {
	d.state = d.state*1664525 + 1013904223
	return int(d.state>>8) % n
}

func (d *dice) literals(vars, most int) []int {
	var l []int
	for range d.below(most + 1) {
		l = append(l, (1+d.below(vars))*(1-2*d.below(2)))
	}
	return l
}

func (d *dice) formula(vars int) api.Formula {
	f := api.Formula{Vars: vars}
	for range d.below(2 * vars) {
		c := d.literals(vars, 4)
		if len(c) == 0 && d.below(8) > 0 { // an empty one fails at once
			continue
		}
		f.Clauses = append(f.Clauses, c)
	}
	return f
}

// models: all that there are of so many variables.
func models(vars int) [][]bool {
	var all [][]bool
	for bits := range 1 << vars {
		model := make([]bool, vars)
		for k := range model {
			model[k] = bits>>k&1 == 1
		}
		all = append(all, model)
	}
	return all
}

// asClauses: f, and that each of these literals holds.
func asClauses(f api.Formula, literals []int) api.Formula {
	f.Clauses = slices.Clone(f.Clauses)
	for _, literal := range literals {
		f.Clauses = append(f.Clauses, api.Clause{literal})
	}
	return f
}

// bySets: Follows, told by the sets of different literals that can hold, all clauses again and again, what is assumed being clauses of one literal.
func bySets(f api.Formula, assumed []int) ([]int, bool) {
	known := map[int]int{}
	for before := -1; before < len(known); {
		before = len(known)
		for _, c := range asClauses(f, assumed).Clauses {
			left := map[int]int{}
			for _, literal := range c {
				if known[-literal] == 0 {
					left[literal] = 1
				}
			}
			for literal := range left {
				if len(left) == 1 {
					known[literal] = 1
				}
			}
			if len(left) == 0 {
				return nil, false
			}
		}
	}
	var l []int
	for v := 1; v <= f.Vars; v++ {
		for _, literal := range []int{v, -v} {
			if known[literal] == 1 {
				l = append(l, literal)
			}
		}
	}
	return l, true
}

// TestFollowsInEachModel: P5.3, of many formulas, by all models; and Follows against another way to say it.
func TestFollowsInEachModel(t *testing.T) {
	d := &dice{state: 5}
	stood, failed, grown := 0, 0, 0
	for range 6000 {
		f := d.formula(1 + d.below(6))
		assumed := d.literals(f.Vars, 3)
		got, ok, e := Follows(f, assumed)
		if e != api.OK {
			t.Fatalf("%v from %v: %d", f, assumed, e)
		}
		if want, wantOK := bySets(f, assumed); !slices.Equal(got, want) || ok != wantOK {
			t.Fatalf("%v from %v: %v, %v, want %v, %v", f, assumed, got, ok, want, wantOK)
		}
		for _, model := range models(f.Vars) {
			may, e := Holds(asClauses(f, assumed), model)
			follows, e2 := Holds(asClauses(formula(f.Vars), got), model)
			if e != api.OK || e2 != api.OK || may && (!ok || !follows) {
				t.Fatalf("%v from %v: %v, %v, but %v is a model", f, assumed, got, ok, model)
			}
		}
		if ok {
			stood++
		} else {
			failed++
		}
		if len(got) > len(assumed) {
			grown++
		}
	}
	if min(stood, failed, grown) < 1000 {
		t.Errorf("too much alike: %d stood, %d of them with more than was assumed, %d failed", stood, grown, failed)
	}
}

// TestOrderHasNoSay: neither that of clauses, nor that of literals, nor that of what is assumed.
func TestOrderHasNoSay(t *testing.T) {
	d := &dice{state: 55}
	for range 2000 {
		f := d.formula(2 + d.below(6))
		assumed := d.literals(f.Vars, 3)
		want, wantOK, _ := Follows(f, assumed)
		slices.Reverse(f.Clauses)
		slices.Reverse(assumed)
		for _, c := range f.Clauses {
			slices.Reverse(c)
		}
		if got, ok, e := Follows(f, assumed); !slices.Equal(got, want) || ok != wantOK || e != api.OK {
			t.Fatalf("%v from %v: %v, %v, %d, want %v, %v", f, assumed, got, ok, e, want, wantOK)
		}
	}
}

// TestOnlyRead: neither lists that are handed in nor the room behind them are changed, and what is answered is new memory.
func TestOnlyRead(t *testing.T) {
	type given struct {
		clauses []api.Clause
		assumed []int
		model   []bool
	}
	lay := func() given {
		return given{[]api.Clause{{1, 2, 9}, {-2, 3, 3, 9}, {4, 9}, {9}}, []int{5, -1, 9}, []bool{false, true, true, true, true, true}}
	}
	g := lay()
	f := formula(5, g.clauses[0][:2], g.clauses[1][:3], g.clauses[2][:1], g.clauses[3])
	f.Clauses = f.Clauses[:3]
	last := f.Clauses[:4][3]
	var answers [][]int
	for range 2 {
		if e := Check(f); e != api.OK {
			t.Errorf("Check: %d", e)
		}
		if got, e := Holds(f, g.model[:5]); !got || e != api.OK {
			t.Errorf("Holds: %v, %d", got, e)
		}
		got, ok, e := Follows(f, g.assumed[:2])
		if !slices.Equal(got, []int{-1, 2, 3, 4, 5}) || !ok || e != api.OK {
			t.Errorf("Follows: %v, %v, %d", got, ok, e)
		}
		answers = append(answers, got)
	}
	for k := range answers[0][:cap(answers[0])] {
		answers[0][:cap(answers[0])][k] = 7
	}
	if !slices.Equal(answers[1], []int{-1, 2, 3, 4, 5}) {
		t.Errorf("one answer is in another: %v", answers[1])
	}
	if !reflect.DeepEqual(g, lay()) || !slices.Equal(last, api.Clause{9}) || !slices.Equal(f.Clauses[:4][3], last) {
		t.Errorf("changed: %+v", g)
	}
}

// TestAnswerIsApart: what is assumed isn't what is answered, even if nothing more follows.
func TestAnswerIsApart(t *testing.T) {
	f, assumed := formula(2, api.Clause{1, 2}), []int{1, 2}
	got, _, _ := Follows(f, assumed)
	got[0], got[1] = 8, 9
	if !slices.Equal(assumed, []int{1, 2}) || !slices.Equal(f.Clauses[0], api.Clause{1, 2}) {
		t.Errorf("changed: %v, %v", assumed, f)
	}
}
