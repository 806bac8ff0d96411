package order

import (
	"math"
	"reflect"
	"slices"
	"testing"

	"quartermaster/api"
	"quartermaster/tree"
)

const on, off = true, false

// parsed: the tree that s says.
func parsed(t *testing.T, s string) api.Tree {
	t.Helper()
	x, at, e := tree.Parse(s)
	if e != api.OK {
		t.Fatalf("%q: line %d: %d", s, at, e)
	}
	return x
}

// member: the package at place, with these flags on and off.
func member(place int, on ...bool) api.Member { return api.Member{Place: place, On: on} }

func set(l ...api.Member) []api.Member { return l }

// TestLeans: which members the first package, m, leans on, in sets of m and others.
func TestLeans(t *testing.T) {
	const rest = "n 1 1 x,y ( )\nn 2 1 x ( )\nn 3 2  ( )\no 1 1  ( )\n"
	all := func(f bool) []api.Member {
		return set(member(0, f), member(1, on, off), member(2, off), member(3), member(4))
	}
	for _, c := range []struct {
		need string
		l    []api.Member
		want []int
	}{
		// Nothing is wanted.
		{"( )", all(off), nil},
		{"( ( ) || ( ) f? ( ) )", all(on), nil},
		{"( !n !o )", all(off), nil},
		{"( || ( !n ) ( !o ) f? ( !n=1 ) )", all(on), nil},

		// By name, version, slot; places are those in the set, not in the tree.
		{"( n )", all(off), []int{1, 2, 3}},
		{"( n )", set(member(0, off), member(3), member(4)), []int{1}},
		{"( o )", set(member(0, off), member(4)), []int{1}},
		{"( n )", set(member(0, off), member(4)), nil},
		{"( nowhere )", all(off), nil},
		{"( n=2 )", all(off), []int{2}},
		{"( n>=2 )", all(off), []int{2, 3}},
		{"( n<2 )", all(off), []int{1}},
		{"( n:1 )", all(off), []int{1, 2}},
		{"( n<3:2 )", all(off), nil},

		// By flag: on just if it is asked; what hasn't the flag is neither.
		{"( n+x )", all(off), []int{1}},
		{"( n-x )", all(off), []int{2}},
		{"( n+y )", all(off), nil},
		{"( n-y )", all(off), []int{1}},
		{"( o+x )", all(off), nil},
		{"( o-x )", all(off), nil},

		// Each once, rising, however often and in which order it is wanted; oneself, too.
		{"( o n n=2 o )", all(off), []int{1, 2, 3, 4}},
		{"( o n=1 )", all(off), []int{1, 4}},
		{"( m )", all(off), []int{0}},
		{"( m-f o )", all(off), []int{0, 4}},
		{"( m+f o )", all(off), []int{4}},

		// In Alls and Somes, all of them, whether they are there or not; Blocks beside them have no say.
		{"( ( o ) || ( n=1 n=3 ) )", all(off), []int{1, 3, 4}},
		{"( || ( ( n=1 n=9 ) n=3 ) )", all(off), []int{1, 3}},
		{"( n !n=2 || ( !o ) )", all(off), []int{1, 2, 3}},

		// In Ifs whose flag is as asked; what is deeper in others is left out, too.
		{"( f? ( o ) !f? ( n=1 ) )", all(on), []int{4}},
		{"( f? ( o ) !f? ( n=1 ) )", all(off), []int{1}},
		{"( f? ( ( o ) || ( n=1 ) ) )", all(off), nil},
		{"( f? ( ( o ) || ( n=1 ) ) )", all(on), []int{1, 4}},
		{"( f? ( !f? ( o ) ) )", all(on), nil},
		{"( f? ( !f? ( o ) ) )", all(off), nil},
		{"( !f? ( f? ( o ) ) n=3 )", all(off), []int{3}},
		{"( !f? ( !f? ( o ) ) )", all(off), []int{4}},
		{"( || ( f? ( o ) n=1 ) )", all(off), []int{1}},
		// What is left out in one place is wanted in another.
		{"( f? ( o ) o )", all(off), []int{4}},
	} {
		x := parsed(t, "m 1 1 f "+c.need+"\n"+rest)
		got, e := Leans(x, c.l)
		if e != api.OK || len(got) != len(c.l) || !slices.Equal(got[0], c.want) {
			t.Errorf("%s in %v: %v, %d, want %v", c.need, c.l, got, e, c.want)
			continue
		}
		for k := range got[1:] {
			if len(got[1+k]) > 0 {
				t.Errorf("%s in %v: %d leans on %v", c.need, c.l, 1+k, got[1+k])
			}
		}
	}
}

// TestLeansFlags: an If asks the flag of its own name, of the member's own, not of another.
func TestLeansFlags(t *testing.T) {
	x := parsed(t, "a 1 1 x,y ( x? ( c ) !y? ( d ) )\nb 1 1 y ( y? ( c a+y ) )\nc 1 1 x,y ( )\nd 1 1  ( b-y )\n")
	for _, c := range []struct {
		l    []api.Member
		want [][]int
	}{
		{nil, nil},
		{set(member(0, on, off), member(1, on), member(2, on, off), member(3)), [][]int{{2, 3}, {2}, {}, {}}},
		{set(member(0, on, on), member(1, off), member(2, off, off), member(3)), [][]int{{2}, {}, {}, {1}}},
		{set(member(0, off, on), member(1, on), member(2, off, off), member(3)), [][]int{{}, {0, 2}, {}, {}}},
		{set(member(0, off, off), member(1, off), member(3)), [][]int{{2}, {}, {1}}},
		{set(member(1, on), member(2, on, on)), [][]int{{1}, {}}},
	} {
		got, e := Leans(x, c.l)
		if e != api.OK || !slices.EqualFunc(got, c.want, slices.Equal) {
			t.Errorf("%v: %v, %d, want %v", c.l, got, e, c.want)
		}
	}
}

func in(cycle, place int, on ...bool) api.Act { return api.Act{M: member(place, on...), Cycle: cycle} }

func out(place int, on ...bool) api.Act { return api.Act{Out: true, M: member(place, on...)} }

func acts(l ...api.Act) []api.Act { return l }

func sameAct(a, b api.Act) bool {
	return a.Out == b.Out && a.Cycle == b.Cycle && tree.SameSet(set(a.M), set(b.M))
}

// plans: is want what Plan answers?
func plans(t *testing.T, x api.Tree, there, l []api.Member, want []api.Act) {
	t.Helper()
	got, e := Plan(x, there, l)
	if e != api.OK || !slices.EqualFunc(got, want, sameAct) {
		t.Errorf("of %v %v: %v, %d, want %v", there, l, got, e, want)
	}
}

// TestOut: what has the name and slot of no member is taken out, in order, ahead of all else.
func TestOut(t *testing.T) {
	x := parsed(t, "a 1 1  ( )\na 2 1 x ( )\na 3 2 x ( )\nb 1 1 x ( )\nc 1 1  ( b )\n")
	for _, c := range []struct {
		there, l []api.Member
		want     []api.Act
	}{
		{nil, nil, nil},
		{set(member(0), member(2, on), member(3, off)), nil, acts(out(0), out(2, on), out(3, off))},
		{set(member(0)), set(member(0)), nil},
		// Another version of the slot is put in over it; of another slot it isn't.
		{set(member(0)), set(member(1, on)), acts(in(0, 1, on))},
		{set(member(1, on)), set(member(0)), acts(in(0, 0))},
		{set(member(0)), set(member(2, on)), acts(out(0), in(0, 2, on))},
		{set(member(1, off)), set(member(2, off)), acts(out(1, off), in(0, 2, off))},
		// Another name of the same slot has no say.
		{set(member(0)), set(member(3, on)), acts(out(0), in(0, 3, on))},
		// Other flags: it is new.
		{set(member(3, on)), set(member(3, on)), nil},
		{set(member(3, on)), set(member(3, off)), acts(in(0, 3, off))},
		// All that is taken out comes ahead, also of what stands ahead of it.
		{set(member(1, on), member(4)), set(member(0), member(3, on)), acts(out(4), in(0, 0), in(0, 3, on))},
		{set(member(2, on), member(4)), set(member(1, on)), acts(out(2, on), out(4), in(0, 1, on))},
		{set(member(2, on)), set(member(3, on), member(4)), acts(out(2, on), in(0, 3, on), in(0, 4))},
		// Two of one name and slot are no set that may be, but one to chapter 3.
		{set(member(0), member(1, on)), set(member(1, on)), nil},
		{set(member(0), member(1, on)), nil, acts(out(0), out(1, on))},
		{set(member(0)), set(member(0), member(1, on)), acts(in(0, 1, on))},
		{nil, set(member(0), member(1, on)), acts(in(0, 0), in(0, 1, on))},
	} {
		plans(t, x, c.there, c.l, c.want)
	}
	plans(t, api.Tree{}, nil, nil, nil)
	plans(t, api.Tree{}, set(), set(), nil)
}

// TestPutIn: what is needed comes first; else the first one of the set does.
func TestPutIn(t *testing.T) {
	for _, c := range []struct {
		tree     string
		there, l []api.Member
		want     []api.Act
	}{
		// Nothing is wanted: in order.
		{"a 1 1  ( )\nb 1 1  ( )\nc 1 1  ( )\n", nil, set(member(0), member(1), member(2)), acts(in(0, 0), in(0, 1), in(0, 2))},
		// One after the other, and then back to the first that is left.
		{"a 1 1  ( c )\nb 1 1  ( )\nc 1 1  ( d )\nd 1 1  ( )\n", nil, set(member(0), member(1), member(2), member(3)), acts(in(0, 1), in(0, 3), in(0, 2), in(0, 0))},
		{"a 1 1  ( b )\nb 1 1  ( )\nc 1 1  ( )\n", nil, set(member(0), member(1), member(2)), acts(in(0, 1), in(0, 0), in(0, 2))},
		{"a 1 1  ( c )\nb 1 1  ( a )\nc 1 1  ( )\n", nil, set(member(0), member(1), member(2)), acts(in(0, 2), in(0, 0), in(0, 1))},
		// Each of a Some, even if one would do.
		{"a 1 1  ( || ( b c ) )\nb 1 1  ( )\nc 1 1  ( )\n", set(member(1)), set(member(0), member(1), member(2)), acts(in(0, 2), in(0, 0))},
		// What isn't in the set, or is there, isn't waited for.
		{"a 1 1  ( b )\nb 1 1  ( )\n", nil, set(member(0)), acts(in(0, 0))},
		{"a 1 1  ( b )\nb 1 1  ( )\n", set(member(1)), set(member(0), member(1)), acts(in(0, 0))},
		{"a 1 1  ( b )\nb 1 1  ( )\n", set(member(0)), set(member(0), member(1)), acts(in(0, 1))},
		// A flag decides whether it is waited for.
		{"a 1 1 x ( x? ( b ) )\nb 1 1  ( )\n", nil, set(member(0, on), member(1)), acts(in(0, 1), in(0, 0, on))},
		{"a 1 1 x ( x? ( b ) )\nb 1 1  ( )\n", nil, set(member(0, off), member(1)), acts(in(0, 0, off), in(0, 1))},
		// Over one that is there the new ones behind it are waited for, too.
		{"a 1 1  ( b )\nb 1 1  ( c )\nc 1 1  ( )\n", set(member(1)), set(member(0), member(1), member(2)), acts(in(0, 2), in(0, 0))},
		{"a 1 1  ( b )\nb 1 1  ( c )\nc 1 1  ( d )\nd 1 1  ( )\n", set(member(1), member(2)), set(member(0), member(1), member(2), member(3)), acts(in(0, 3), in(0, 0))},
		// A newer version of what is there is new.
		{"a 1 1  ( b )\nb 1 1  ( )\nb 2 1  ( )\n", set(member(1)), set(member(0), member(2)), acts(in(0, 2), in(0, 0))},
	} {
		plans(t, parsed(t, c.tree), c.there, c.l, c.want)
	}
}

// TestCycles: those that come to each other don't wait for each other, and have a number together.
func TestCycles(t *testing.T) {
	pair := "a 1 1  ( b )\nb 1 1  ( a )\n"
	three := "a 1 1  ( c )\nb 1 1  ( a )\nc 1 1  ( b )\n"
	// a and e, b and d; c alone, which needs d.
	two := "a 1 1  ( e b )\nb 1 1  ( d )\nc 1 1  ( d )\nd 1 1  ( b )\ne 1 1  ( a )\n"
	for _, c := range []struct {
		tree     string
		there, l []api.Member
		want     []api.Act
	}{
		{pair, nil, set(member(0), member(1)), acts(in(1, 0), in(1, 1))},
		{three, nil, set(member(0), member(1), member(2)), acts(in(1, 0), in(1, 1), in(1, 2))},
		// One that needs itself alone is none.
		{"a 1 1  ( a )\n", nil, set(member(0)), acts(in(0, 0))},
		{"a 1 1  ( a b )\nb 1 1  ( b )\n", nil, set(member(0), member(1)), acts(in(0, 1), in(0, 0))},
		// One that is there has no say, but what goes over it has.
		{pair, set(member(0)), set(member(0), member(1)), acts(in(0, 1))},
		{pair, nil, set(member(1)), acts(in(0, 1))},
		{three, set(member(0)), set(member(0), member(1), member(2)), acts(in(1, 1), in(1, 2))},
		{three, set(member(1)), set(member(0), member(1), member(2)), acts(in(1, 0), in(1, 2))},
		{three, set(member(0), member(2)), set(member(0), member(1), member(2)), acts(in(0, 1))},
		{three, nil, set(member(0), member(2)), acts(in(0, 2), in(0, 0))},
		// Numbers rise in the order in which each cycle begins, not by place.
		{two, nil, set(member(0), member(1), member(2), member(3), member(4)), acts(in(1, 1), in(1, 3), in(2, 0), in(0, 2), in(2, 4))},
		{two, set(member(4)), set(member(0), member(1), member(2), member(3), member(4)), acts(in(1, 1), in(1, 3), in(0, 0), in(0, 2))},
		{two, set(member(3)), set(member(0), member(1), member(2), member(3), member(4)), acts(in(0, 1), in(1, 0), in(0, 2), in(1, 4))},
		// All that one of a cycle comes to comes ahead of all of it, and what comes to one behind all.
		{"a 1 1  ( b )\nb 1 1  ( a d )\nc 1 1  ( b )\nd 1 1  ( )\n", nil, set(member(0), member(1), member(2), member(3)), acts(in(0, 3), in(1, 0), in(1, 1), in(0, 2))},
		{"a 1 1  ( b )\nb 1 1  ( c )\nc 1 1  ( b )\n", nil, set(member(0), member(1), member(2)), acts(in(1, 1), in(1, 2), in(0, 0))},
		// Two ways round that meet in one member are one.
		{"a 1 1  ( b )\nb 1 1  ( a c )\nc 1 1  ( b )\n", nil, set(member(0), member(1), member(2)), acts(in(1, 0), in(1, 1), in(1, 2))},
		// One between the members of a cycle is put in as soon as it may be.
		{"a 1 1  ( c )\nb 1 1  ( )\nc 1 1  ( a )\n", nil, set(member(0), member(1), member(2)), acts(in(1, 0), in(0, 1), in(1, 2))},
	} {
		plans(t, parsed(t, c.tree), c.there, c.l, c.want)
	}
	// As long as may be, and as many as may be.
	ring := "a 1 1  ( b )\nb 1 1  ( c )\nc 1 1  ( d )\nd 1 1  ( e )\ne 1 1  ( f )\nf 1 1  ( g )\ng 1 1  ( h )\nh 1 1  ( a )\n"
	pairs := "a 1 1  ( h )\nb 1 1  ( g a )\nc 1 1  ( f b )\nd 1 1  ( e c )\ne 1 1  ( d )\nf 1 1  ( c )\ng 1 1  ( b )\nh 1 1  ( a )\n"
	var all []api.Member
	var once []api.Act
	for place := range api.MaxPackages {
		all, once = append(all, member(place)), append(once, in(1, place))
	}
	plans(t, parsed(t, ring), nil, all, once)
	plans(t, parsed(t, ring), all, all, nil)
	plans(t, parsed(t, ring), nil, all[1:], acts(in(0, 7), in(0, 6), in(0, 5), in(0, 4), in(0, 3), in(0, 2), in(0, 1)))
	plans(t, parsed(t, pairs), nil, all, acts(in(1, 0), in(1, 7), in(2, 1), in(2, 6), in(3, 2), in(3, 5), in(4, 3), in(4, 4)))
}

// shop: packages with 0, 1, 2 and 0 flags.
const shop = "a 1 1  ( b )\na 2 1 x ( x? ( b ) )\nb 1 1 x,y ( )\nc 1 1  ( a )\n"

type wrongSet struct {
	l    []api.Member
	want api.Errno
}

// wrongSets: sets that may not be, of shop, with the error that is told first.
func wrongSets() []wrongSet {
	return []wrongSet{
		{set(member(4)), api.ErrWho},
		{set(member(-1)), api.ErrWho},
		{set(member(math.MaxInt)), api.ErrWho},
		{set(member(math.MinInt)), api.ErrWho},
		{set(member(0), member(0)), api.ErrTwice},
		{set(member(3), member(0)), api.ErrTwice},
		{set(member(1)), api.ErrForm},
		{set(member(0, on)), api.ErrForm},
		{set(member(2, on, on, on)), api.ErrForm},
		{set(member(1), member(4)), api.ErrForm},
		{set(member(0), member(4), member(4)), api.ErrWho},
		{slices.Repeat(set(member(3)), 100000), api.ErrTwice},
	}
}

// failsToPlan: is there this error, and nothing else?
func failsToPlan(t *testing.T, x api.Tree, there, l []api.Member, want api.Errno) {
	t.Helper()
	if got, e := Plan(x, there, l); got != nil || e != want {
		t.Errorf("Plan: %v, %d, want %d", got, e, want)
	}
}

// failsToLean: is there this error, and nothing else?
func failsToLean(t *testing.T, x api.Tree, l []api.Member, want api.Errno) {
	t.Helper()
	if got, e := Leans(x, l); got != nil || e != want {
		t.Errorf("Leans: %v, %d, want %d", got, e, want)
	}
}

// TestWrongSets: what is wrong with the set that is wanted comes ahead of what is wrong with the one that is there.
func TestWrongSets(t *testing.T) {
	x := parsed(t, shop)
	for _, c := range wrongSets() {
		failsToLean(t, x, c.l, c.want)
		failsToPlan(t, x, nil, c.l, c.want)
		failsToPlan(t, x, c.l, nil, c.want)
		failsToPlan(t, x, c.l, set(member(0), member(2, on, off)), c.want)
		for _, there := range wrongSets() {
			failsToPlan(t, x, there.l, c.l, c.want)
		}
	}
	failsToLean(t, api.Tree{}, set(member(0)), api.ErrWho)
	failsToPlan(t, api.Tree{}, set(member(0)), nil, api.ErrWho)
}

// holdsItself: what goes deeper without end, if one follows it.
func holdsItself() api.Need {
	kids := []api.Need{{Kind: api.All}, {Kind: api.All}}
	kids[0].Kids, kids[1].Kids = kids, kids
	return kids[0]
}

// TestWrongTrees: what is wrong with a tree comes ahead of what is wrong with sets.
func TestWrongTrees(t *testing.T) {
	for want, p := range map[api.Errno]api.Package{
		api.ErrText:  {Name: "A"},
		api.ErrRange: {Name: "a"},
		api.ErrForm:  {Name: "a", Version: 1, Slot: 1},
		api.ErrWho:   {Name: "a", Version: 1, Slot: 1, Need: api.Need{Kind: api.All, Kids: []api.Need{{Kind: api.If, Flag: "x"}}}},
		api.ErrTwice: {Name: "a", Version: 1, Slot: 1, Flags: []string{"x", "x"}},
		api.ErrMany:  {Name: "a", Version: 1, Slot: 1, Need: holdsItself()},
	} {
		x := api.Tree{Packages: []api.Package{p}}
		for _, l := range [][]api.Member{nil, set(member(0)), set(member(9)), set(member(0), member(0))} {
			failsToLean(t, x, l, want)
			failsToPlan(t, x, nil, l, want)
			failsToPlan(t, x, l, nil, want)
		}
	}
	failsToLean(t, api.Tree{Packages: make([]api.Package, api.MaxPackages+1)}, nil, api.ErrMany)
	failsToPlan(t, api.Tree{Packages: make([]api.Package, api.MaxPackages+1)}, nil, nil, api.ErrMany)
}

type given struct {
	x        api.Tree
	there, l []api.Member
	flags    [2][]bool // of member 1 of each, with what is behind them
}

// lay: things to hand in, each list with something behind what is handed in of it.
func lay(t *testing.T) given {
	flags := [2][]bool{{on, off, on}, {on, on, off}}
	return given{
		parsed(t, shop+"d 1 1 x ( )\ne 1 1  ( )\n"),
		set(member(1, off), member(2, flags[0][:2]...), member(4, on), member(99, on)),
		set(member(1, on), member(2, flags[1][:2]...), member(3), member(99, on)),
		flags,
	}
}

// handed: lay's things, up to what is behind them.
func (g given) handed() given {
	return given{x: api.Tree{Packages: g.x.Packages[:5]}, there: g.there[:3], l: g.l[:3]}
}

type answers struct {
	leans [][]int
	acts  []api.Act
}

func (g given) ask(t *testing.T) answers {
	t.Helper()
	h := g.handed()
	leans, e := Leans(h.x, h.l)
	if e != api.OK {
		t.Fatal(e)
	}
	acts, e := Plan(h.x, h.there, h.l)
	if e != api.OK || len(acts) != 4 {
		t.Fatal(acts, e)
	}
	return answers{leans, acts}
}

// TestOnlyRead: neither lists that are handed in nor the room behind them are changed, and the answers are the same again.
func TestOnlyRead(t *testing.T) {
	g := lay(t)
	first := g.ask(t)
	if again := g.ask(t); !reflect.DeepEqual(first, again) {
		t.Errorf("%v, then %v", first, again)
	}
	if !reflect.DeepEqual(g, lay(t)) {
		t.Errorf("changed: %+v", g)
	}
	h := g.handed()
	if _, e := Plan(h.x, g.there, h.l); e != api.ErrWho || !reflect.DeepEqual(g, lay(t)) {
		t.Errorf("changed by an error: %+v", g)
	}
}

// TestNewMemory: lists of an answer can be written over, with the room behind them, and nothing else changes.
func TestNewMemory(t *testing.T) {
	g := lay(t)
	a, want := g.ask(t), g.ask(t)
	for i, places := range a.leans {
		if !slices.Equal(places, want.leans[i]) {
			t.Fatalf("places %d share their room", i)
		}
		for k := range places[:cap(places)] {
			places[:cap(places)][k] = 999
		}
	}
	for i, act := range a.acts {
		if !sameAct(act, want.acts[i]) {
			t.Fatalf("act %d shares its room", i)
		}
		flags := act.M.On[:cap(act.M.On)]
		for k := range flags {
			flags[k] = k >= len(act.M.On) || !flags[k]
		}
	}
	clear(a.leans[:cap(a.leans)])
	clear(a.acts[:cap(a.acts)])
	if !reflect.DeepEqual(g, lay(t)) || !reflect.DeepEqual(g.ask(t), want) {
		t.Errorf("changed: %+v", g)
	}
}
