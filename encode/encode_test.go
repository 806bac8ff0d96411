package encode

import (
	"reflect"
	"slices"
	"testing"

	"quartermaster/api"
	"quartermaster/atom"
	"quartermaster/cnf"
	"quartermaster/rup"
	"quartermaster/sat"
	"quartermaster/tree"
)

// encoded: what Encode says, which chapter 5 must take.
func encoded(t *testing.T, x api.Tree, w api.Wish) api.Formula {
	t.Helper()
	f, e := Encode(x, w)
	if e != api.OK || cnf.Check(f) != api.OK {
		t.Fatalf("%d, %d: %v", e, cnf.Check(f), f)
	}
	return f
}

// mayBe: do these choices make f hold, all other variables following, or do they fail?
func mayBe(t *testing.T, f api.Formula, choices []int) bool {
	t.Helper()
	known, ok, e := cnf.Follows(f, choices)
	if e != api.OK {
		t.Fatalf("%v: %d", choices, e)
	}
	if !ok {
		return false
	}
	if len(known) != f.Vars || !slices.Equal(known[:len(choices)], choices) {
		t.Fatalf("%v: of %d variables %v", choices, f.Vars, known)
	}
	if holds, e := cnf.Holds(f, modelOf(known)); !holds || e != api.OK {
		t.Fatalf("%v: %v, %d", known, holds, e)
	}
	return true
}

// TestSets: which sets make a formula hold, one condition at a time.
func TestSets(t *testing.T) {
	const rest = "n 1 1 x,y ( )\nn 2 1 x ( )\nn 3 2  ( )\no 1 1  ( )\n"
	alone, flagged := set(member(0, off)), set(member(0, on))
	with := func(l ...api.Member) []api.Member { return append(set(member(0, off)), l...) }
	for _, c := range []struct {
		need string
		w    api.Wish
		l    []api.Member
		want bool
	}{
		// Targets, Masked, slots.
		{"( )", api.Wish{}, nil, true},
		{"( )", api.Wish{Targets: named("m")}, nil, false},
		{"( )", api.Wish{Targets: named("m")}, alone, true},
		{"( )", api.Wish{Targets: named("m", "o")}, alone, false},
		{"( )", api.Wish{Targets: named("nowhere")}, alone, false},
		{"( )", api.Wish{Targets: []api.Atom{{Name: "m", Flag: "f", On: true}}}, alone, false},
		{"( )", api.Wish{Targets: []api.Atom{{Name: "m", Flag: "f", On: true}}}, flagged, true},
		{"( )", api.Wish{Targets: []api.Atom{{Name: "m", Flag: "f"}}}, alone, true},
		{"( )", api.Wish{Targets: []api.Atom{{Name: "m", Flag: "f"}}}, nil, false},
		{"( )", api.Wish{Targets: []api.Atom{{Name: "n", Op: api.Least, Version: 2, Slot: 1}}}, with(member(3)), false},
		{"( )", api.Wish{Targets: []api.Atom{{Name: "n", Op: api.Least, Version: 2, Slot: 1}}}, with(member(2, off)), true},
		{"( )", api.Wish{Masked: []int{0}}, alone, false},
		{"( )", api.Wish{Masked: []int{0}, Installed: alone}, alone, false},
		{"( )", api.Wish{Masked: []int{1, 2, 3, 4}}, alone, true},
		{"( )", api.Wish{}, with(member(1, on, on), member(2, off)), false},
		{"( )", api.Wish{}, with(member(1, on, on), member(3)), true},
		{"( )", api.Wish{}, with(member(2, on), member(3), member(4)), true},

		// Needs: of what is taken alone.
		{"( || ( ) )", api.Wish{}, alone, false},
		{"( || ( ) )", api.Wish{}, set(member(4)), true},
		{"( nowhere )", api.Wish{}, alone, false},
		{"( !nowhere )", api.Wish{}, alone, true},
		{"( n )", api.Wish{}, alone, false},
		{"( n )", api.Wish{Installed: set(member(3))}, alone, false},
		{"( n )", api.Wish{Installed: set(member(3))}, with(member(3)), true},
		{"( n )", api.Wish{}, with(member(3)), true},
		{"( n+y )", api.Wish{}, with(member(1, on, off)), false},
		{"( n+y )", api.Wish{}, with(member(1, off, on)), true},
		{"( n+y )", api.Wish{On: [][2]int{{1, 1}}}, alone, false},
		{"( n-x )", api.Wish{}, with(member(3)), false},
		{"( n-x )", api.Wish{}, with(member(2, off)), true},
		{"( m )", api.Wish{}, alone, true},
		{"( !m )", api.Wish{}, alone, true},
		{"( !n )", api.Wish{}, with(member(2, on)), false},
		{"( !n+x )", api.Wish{}, with(member(2, on)), false},
		{"( !n+x )", api.Wish{}, with(member(2, off)), true},
		{"( n || ( o n=1 ) )", api.Wish{}, with(member(2, off)), false},
		{"( n || ( o n=1 ) )", api.Wish{}, with(member(2, off), member(4)), true},
		{"( n || ( o n=1 ) )", api.Wish{}, with(member(1, off, off)), true},
		{"( f? ( n o ) )", api.Wish{}, alone, true},
		{"( f? ( n o ) )", api.Wish{}, set(member(0, on), member(3)), false},
		{"( f? ( n o ) )", api.Wish{}, set(member(0, on), member(3), member(4)), true},
		{"( !f? ( n o ) )", api.Wish{}, alone, false},
		{"( !f? ( n o ) )", api.Wish{}, flagged, true},
		{"( !f? ( n o ) )", api.Wish{On: [][2]int{{0, 0}}}, with(member(4)), false},
		{"( f? ( ) !f? ( ) )", api.Wish{}, alone, true},
		{"( || ( f? ( n ) o ) )", api.Wish{}, flagged, false},
		{"( || ( f? ( n ) o ) )", api.Wish{}, alone, true},
	} {
		x := parsed(t, "m 1 1 f "+c.need+"\n"+rest)
		literals, e := Literals(x, c.w, c.l)
		if e != api.OK {
			t.Fatalf("%s: %d", c.need, e)
		}
		if got := mayBe(t, encoded(t, x, c.w), literals); got != c.want {
			t.Errorf("%s, %v, of %v: %v", c.need, c.w, c.l, got)
		}
	}
}

// TestNoPackages: a formula without choices holds, unless there are targets.
func TestNoPackages(t *testing.T) {
	if !mayBe(t, encoded(t, api.Tree{}, api.Wish{}), nil) {
		t.Error("nothing, as wished, fails")
	}
	if mayBe(t, encoded(t, api.Tree{}, api.Wish{Targets: named("a")}), nil) {
		t.Error("a is there")
	}
}

// TestLeastModel: the choices stand so that the least model is the best set.
func TestLeastModel(t *testing.T) {
	const two = "a 1 1  ( )\na 2 1 x ( x? ( b ) )\nb 1 1  ( )\n"
	a := named("a")
	for i, c := range []struct {
		tree string
		w    api.Wish
		want []api.Member
	}{
		{"a 1 1  ( )\na 2 1  ( )\n", api.Wish{Targets: a}, set(member(1))},
		{two, api.Wish{}, nil},
		{two, api.Wish{Targets: a}, set(member(1, off))},
		{two, api.Wish{Targets: a, Installed: set(member(0))}, set(member(0))},
		{two, api.Wish{Targets: a, Masked: []int{1}}, set(member(0))},
		// What isn't there isn't taken ahead of flags being as wished.
		{two, api.Wish{Targets: a, On: [][2]int{{1, 0}}}, set(member(1, off))},
		{two, api.Wish{Targets: a, On: [][2]int{{1, 0}}, Installed: set(member(2))}, set(member(1, on), member(2))},
		{two, api.Wish{Installed: set(member(1, on))}, set(member(1, off))},
	} {
		x := parsed(t, c.tree)
		answer, e := sat.Solve(encoded(t, x, c.w), api.MaxSteps)
		if e != api.OK {
			t.Fatalf("%d: %d", i, e)
		}
		if got, e := Set(x, c.w, answer.Model); !tree.SameSet(got, c.want) || e != api.OK {
			t.Errorf("%d: %v, %d, want %v", i, got, e, c.want)
		}
	}
}

// TestRefuted: where no set will do the formula has a proof of it.
func TestRefuted(t *testing.T) {
	x := parsed(t, "a 1 1  ( b !c )\na 2 2 x ( x? ( d ) !x? ( b ) )\nb 1 1  ( c )\nc 1 1  ( )\n")
	f := encoded(t, x, api.Wish{Targets: named("a"), Masked: []int{3}})
	answer, e := sat.Solve(f, api.MaxSteps)
	if answer.Model != nil || e != api.OK {
		t.Fatalf("%v, %d", answer.Model, e)
	}
	if refutes, e := rup.Refutes(f, answer.Proof); !refutes || e != api.OK {
		t.Errorf("%v, %d", refutes, e)
	}
}

type given struct {
	x     api.Tree
	w     api.Wish
	l     []api.Member
	model []bool
}

// lay: things to hand in, each list with something behind what is handed in of it.
func lay(t *testing.T) given {
	flag, e := atom.Parse("a+x")
	if e != api.OK {
		t.Fatal(e)
	}
	return given{
		parsed(t, "a 1 1 x,y ( x? ( b !c ) || ( c b-x ) )\nb 1 1 x ( )\nc 1 1  ( )\nd 1 1  ( )\n"),
		api.Wish{
			Targets:   append(named("b"), flag, api.Atom{Name: "behind"}),
			Installed: set(member(0, on, off), member(2), member(9)),
			Masked:    []int{2, 0},
			On:        [][2]int{{0, 1}, {1, 0}, {0, 0}},
		},
		set(member(0, on, off), member(1, off), member(7)),
		[]bool{false, true, true, true, false, true, false, true, true, true},
	}
}

func (g given) handed() given {
	w := api.Wish{Targets: g.w.Targets[:2], Installed: g.w.Installed[:2], Masked: g.w.Masked[:1], On: g.w.On[:2]}
	return given{api.Tree{Packages: g.x.Packages[:3]}, w, g.l[:2], g.model[:8]}
}

// answers of all calls, and the lists in them.
type answers struct {
	f        api.Formula
	l        []api.Member
	literals []int
}

func (g given) ask(t *testing.T) answers {
	t.Helper()
	var a answers
	var e [3]api.Errno
	a.f, e[0] = Encode(g.x, g.w)
	a.l, e[1] = Set(g.x, g.w, g.model)
	a.literals, e[2] = Literals(g.x, g.w, g.l)
	if e != [3]api.Errno{} {
		t.Fatal(e)
	}
	return a
}

// TestOnlyRead: neither lists that are handed in nor the room behind them are changed, and the answers are the same again.
func TestOnlyRead(t *testing.T) {
	g := lay(t)
	first := g.handed().ask(t)
	for range 20 { // maps are gone through in another order each time
		if again := g.handed().ask(t); !reflect.DeepEqual(first, again) {
			t.Fatalf("%v, then %v", first, again)
		}
	}
	if !reflect.DeepEqual(g, lay(t)) {
		t.Errorf("changed: %+v", g)
	}
}

// TestNewMemory: lists of an answer can be written over, with the room behind them, and nothing else changes.
func TestNewMemory(t *testing.T) {
	g := lay(t)
	a, want := g.handed().ask(t), g.handed().ask(t)
	for i, c := range a.f.Clauses {
		if !slices.Equal(c, want.f.Clauses[i]) {
			t.Fatalf("clause %d shares its room", i)
		}
		for k := range c[:cap(c)] {
			c[:cap(c)][k] = 999
		}
	}
	for i, m := range a.l {
		if !slices.Equal(m.On, want.l[i].On) {
			t.Fatalf("member %d shares its room", i)
		}
		for k := range m.On[:cap(m.On)] {
			m.On[:cap(m.On)][k] = k >= len(m.On) || !m.On[k]
		}
	}
	clear(a.f.Clauses[:cap(a.f.Clauses)])
	clear(a.l[:cap(a.l)])
	clear(a.literals[:cap(a.literals)])
	if !reflect.DeepEqual(g, lay(t)) || !reflect.DeepEqual(g.handed().ask(t), want) {
		t.Errorf("changed: %+v", g)
	}
}
