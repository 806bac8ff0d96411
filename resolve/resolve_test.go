package resolve

import (
	"math"
	"reflect"
	"slices"
	"testing"

	"quartermaster/api"
	"quartermaster/atom"
	"quartermaster/encode"
	"quartermaster/rup"
	"quartermaster/tree"
)

const on, off = true, false

// parsed: the tree that s says.
func parsed(t *testing.T, s string) api.Tree {
	t.Helper()
	x, at, e := tree.Parse(s)
	if e != api.OK {
		t.Fatalf("%q: line %d: %d", s, at, e)
	}
	return x
}

// member: the package at place, with these flags on and off.
func member(place int, on ...bool) api.Member { return api.Member{Place: place, On: on} }

func set(l ...api.Member) []api.Member { return l }

// targets: the atoms that texts say.
func targets(texts ...string) []api.Atom {
	var l []api.Atom
	for _, text := range texts {
		a, e := atom.Parse(text)
		if e != api.OK {
			panic(text)
		}
		l = append(l, a)
	}
	return l
}

// finds: is want what Resolve answers, without a proof?
func finds(t *testing.T, x api.Tree, w api.Wish, want []api.Member) {
	t.Helper()
	l, proof, e := Resolve(x, w, api.MaxSteps)
	if !tree.SameSet(l, want) || proof != nil || e != api.OK {
		t.Errorf("%+v: %v, %v, %d, want %v", w, l, proof, e, want)
	}
}

// refuted: the proof that there is no set, which must refute what Encode says.
func refuted(t *testing.T, x api.Tree, w api.Wish) []api.Clause {
	t.Helper()
	l, proof, e := Resolve(x, w, api.MaxSteps)
	if l != nil || e != api.ErrNone {
		t.Fatalf("%+v: %v, %d", w, l, e)
	}
	f, e := encode.Encode(x, w)
	if e != api.OK {
		t.Fatal(e)
	}
	if refutes, e := rup.Refutes(f, proof); !refutes || e != api.OK {
		t.Errorf("%+v: %v: %v, %d", w, proof, refutes, e)
	}
	return proof
}

// shop: two slots of a, the newer ones with needs of their own; b and c don't go together.
const shop = "a 1 1  ( b )\na 2 1 x ( x? ( b ) )\na 3 2 x,y ( || ( b c ) y? ( a:1 ) )\nb 1 1  ( !c )\nc 1 1  ( )\nc 2 1 z ( !z? ( b ) )\n"

// TestBest: what is there stays, what isn't isn't taken, the newest rather than an elder one, flags are as wished: in this order, as far as may be.
func TestBest(t *testing.T) {
	x := parsed(t, shop)
	for _, c := range []struct {
		w    api.Wish
		want []api.Member
	}{
		// Nothing wished, nothing taken.
		{api.Wish{}, nil},
		{api.Wish{On: [][2]int{{1, 0}}}, nil},
		{api.Wish{Masked: []int{0, 1, 2, 3, 4, 5}}, nil},

		// What isn't there isn't taken, the one that stands first ahead of others.
		{api.Wish{Targets: targets("a")}, set(member(2, off, off), member(5, on))},
		{api.Wish{Targets: targets("a:1")}, set(member(1, off))},
		{api.Wish{Targets: targets("a<2")}, set(member(0), member(3))},
		{api.Wish{Targets: targets("c")}, set(member(5, on))},
		{api.Wish{Targets: targets("c", "c<2")}, set(member(4))},
		{api.Wish{Targets: targets("a+y")}, set(member(1, off), member(2, off, on), member(5, on))},
		{api.Wish{Targets: targets("a=2+x")}, set(member(1, on), member(3))},

		// What is there stays, wished or not, even if more must be taken for it, or an elder one is kept.
		{api.Wish{Installed: set(member(4))}, set(member(4))},
		{api.Wish{Targets: targets("c"), Installed: set(member(4))}, set(member(4))},
		{api.Wish{Targets: targets("a"), Installed: set(member(4))}, set(member(2, off, off), member(4))},
		{api.Wish{Targets: targets("a"), Installed: set(member(0), member(3))}, set(member(0), member(3))},
		{api.Wish{Installed: set(member(0))}, set(member(0), member(3))},
		{api.Wish{Targets: targets("c=2"), Installed: set(member(4))}, set(member(5, on))},
		// Of two that can't both stay the first one does.
		{api.Wish{Installed: set(member(0), member(1, on))}, set(member(0), member(3))},
		{api.Wish{Installed: set(member(3), member(4))}, set(member(3))},
		// What is there with a flag on has it off, if that is wished.
		{api.Wish{Installed: set(member(1, on))}, set(member(1, off))},
		{api.Wish{Installed: set(member(1, off)), On: [][2]int{{1, 0}}}, set(member(1, off))},
		{api.Wish{Installed: set(member(1, off), member(3)), On: [][2]int{{1, 0}}}, set(member(1, on), member(3))},

		// Flags are as wished as far as nothing more is taken for them.
		{api.Wish{Targets: targets("a"), On: [][2]int{{2, 0}, {2, 1}, {5, 0}}}, set(member(2, on, off), member(5, on))},
		{api.Wish{Targets: targets("a:2", "a:1"), On: [][2]int{{1, 0}, {2, 1}}}, set(member(1, off), member(2, off, on), member(5, on))},
		{api.Wish{Targets: targets("a-x"), On: [][2]int{{2, 0}}}, set(member(2, off, off), member(5, on))},

		// What is masked isn't taken, be it there or not.
		{api.Wish{Targets: targets("a"), Masked: []int{2}}, set(member(1, off))},
		{api.Wish{Targets: targets("a"), Masked: []int{3, 5}}, set(member(2, off, off), member(4))},
		{api.Wish{Targets: targets("a"), Masked: []int{1, 2}}, set(member(0), member(3))},
		{api.Wish{Targets: targets("c"), Installed: set(member(4)), Masked: []int{4}}, set(member(5, on))},
	} {
		finds(t, x, c.w, c.want)
	}
	finds(t, api.Tree{}, api.Wish{}, nil)
	finds(t, parsed(t, "a 1 1  ( )\na 2 1  ( )\n"), api.Wish{Targets: targets("a")}, set(member(1)))
}

// TestNone: there is no set, for one cause at a time, and a proof of it.
func TestNone(t *testing.T) {
	x := parsed(t, shop)
	for _, w := range []api.Wish{
		{Targets: targets("nowhere")},
		{Targets: targets("a=9")},
		{Targets: targets("b", "c")},
		{Targets: targets("a=1", "a=2")},
		{Targets: targets("a=2+x", "a=2-x")},
		{Targets: targets("b"), Masked: []int{3}},
		{Targets: targets("b"), Masked: []int{3}, Installed: set(member(3))},
		{Targets: targets("a<2", "c")},
		{Targets: targets("a"), Masked: []int{0, 1, 2}},
		{Targets: targets("a>=2+x"), Masked: []int{3, 4, 5}},
		{Targets: targets("a"), Masked: []int{1, 3, 4, 5}},
	} {
		refuted(t, x, w)
	}
	refuted(t, api.Tree{}, api.Wish{Targets: targets("a")})
	refuted(t, parsed(t, "a 1 1  ( || ( ) )\n"), api.Wish{Targets: targets("a")})
	refuted(t, parsed(t, "a 1 1 x ( x? ( b ) !x? ( b ) )\n"), api.Wish{Targets: targets("a")})
}

// fails: is there this error, and nothing else?
func fails(t *testing.T, x api.Tree, w api.Wish, steps int, want api.Errno) {
	t.Helper()
	if l, proof, e := Resolve(x, w, steps); l != nil || proof != nil || e != want {
		t.Errorf("%+v in %d steps: %v, %v, %d, want %d", w, steps, l, proof, e, want)
	}
}

// failsBoth: of both calls.
func failsBoth(t *testing.T, x api.Tree, w api.Wish, steps int, want api.Errno) {
	t.Helper()
	fails(t, x, w, steps, want)
	failsToUnmask(t, x, w, steps, want)
}

var wrongSteps = []int{0, -1, api.MaxSteps + 1, math.MinInt, math.MaxInt}

// TestWrongSteps: even if there is nothing to try.
func TestWrongSteps(t *testing.T) {
	x := parsed(t, shop)
	for _, steps := range wrongSteps {
		for _, w := range []api.Wish{{}, {Targets: targets("a")}, {Targets: targets("nowhere")}, {Targets: targets("b"), Masked: []int{3}}} {
			failsBoth(t, x, w, steps, api.ErrRange)
		}
		failsBoth(t, api.Tree{}, api.Wish{}, steps, api.ErrRange)
	}
}

// TestWrongWishes: what is wrong with a wish comes ahead of what is wrong with steps, and of there being no set.
func TestWrongWishes(t *testing.T) {
	x := parsed(t, shop)
	for _, c := range []struct {
		w    api.Wish
		want api.Errno
	}{
		{api.Wish{Installed: set(member(6))}, api.ErrWho},
		{api.Wish{Installed: set(member(0), member(0))}, api.ErrTwice},
		{api.Wish{Installed: set(member(1))}, api.ErrForm},
		{api.Wish{Installed: slices.Repeat(set(member(0)), 100000)}, api.ErrTwice},
		{api.Wish{Targets: make([]api.Atom, api.MaxTargets+1)}, api.ErrMany},
		{api.Wish{Targets: make([]api.Atom, api.MaxTargets)}, api.ErrText},
		{api.Wish{Targets: []api.Atom{{Name: "a", Version: 1}}}, api.ErrRange},
		{api.Wish{Targets: []api.Atom{{Name: "a", On: true}}}, api.ErrForm},
		{api.Wish{Masked: []int{-1}}, api.ErrWho},
		{api.Wish{Masked: []int{6}}, api.ErrWho},
		{api.Wish{Masked: []int{3, 3}}, api.ErrTwice},
		{api.Wish{Masked: []int{3, 0}}, api.ErrTwice},
		{api.Wish{Targets: targets("nowhere"), Masked: []int{0, math.MaxInt}}, api.ErrWho},
		{api.Wish{On: [][2]int{{0, 0}}}, api.ErrWho},
		{api.Wish{On: [][2]int{{math.MinInt, 0}}}, api.ErrWho},
		{api.Wish{On: [][2]int{{2, 1}, {2, 0}}}, api.ErrTwice},
		{api.Wish{Masked: []int{1, 0}, On: [][2]int{{9, 9}}}, api.ErrTwice},
		{api.Wish{Installed: set(member(1)), Masked: []int{6}}, api.ErrForm},
	} {
		for _, steps := range append([]int{1, api.MaxSteps}, wrongSteps...) {
			failsBoth(t, x, c.w, steps, c.want)
		}
	}
}

// holdsItself: what goes deeper without end, if one follows it.
func holdsItself() api.Need {
	kids := []api.Need{{Kind: api.All}, {Kind: api.All}}
	kids[0].Kids, kids[1].Kids = kids, kids
	return kids[0]
}

// TestWrongTrees: what is wrong with a tree comes ahead of all else.
func TestWrongTrees(t *testing.T) {
	for want, p := range map[api.Errno]api.Package{
		api.ErrText:  {Name: "A"},
		api.ErrRange: {Name: "a"},
		api.ErrForm:  {Name: "a", Version: 1, Slot: 1},
		api.ErrWho:   {Name: "a", Version: 1, Slot: 1, Need: api.Need{Kind: api.All, Kids: []api.Need{{Kind: api.If, Flag: "x"}}}},
		api.ErrTwice: {Name: "a", Version: 1, Slot: 1, Flags: []string{"x", "x"}},
		api.ErrMany:  {Name: "a", Version: 1, Slot: 1, Need: holdsItself()},
	} {
		x := api.Tree{Packages: []api.Package{p}}
		for _, steps := range append([]int{1, api.MaxSteps}, wrongSteps...) {
			failsBoth(t, x, api.Wish{}, steps, want)
			failsBoth(t, x, api.Wish{Installed: set(member(9)), Masked: []int{9}}, steps, want)
		}
	}
	failsBoth(t, api.Tree{Packages: make([]api.Package, api.MaxPackages+1)}, api.Wish{}, 9, api.ErrMany)
}

// hopeless: as many choices as may be, of which most are free, but z can't be: which of its flags are on shows that only when one of them is tried, behind all free choices.
const hopeless = "a 1 1 x ( )\nb 1 1 x ( )\nc 1 1 x ( )\nd 1 1 x ( )\ne 1 1  ( )\nf 1 1  ( )\ng 1 1  ( )\n" +
	"z 1 1 u,v ( || ( z+u z+v ) || ( z+u z-v ) || ( z-u z+v ) || ( z-u z-v ) )\n"

// TestAllSteps: with api.MaxSteps it is done, however much is to be tried; with fewer it may be too much, but never wrong.
func TestAllSteps(t *testing.T) {
	x := parsed(t, hopeless)
	w := api.Wish{Targets: targets("z")}
	proof := refuted(t, x, w)
	if len(proof) < 8000 {
		t.Errorf("it takes no more than %d", len(proof))
	}
	for _, steps := range []int{1, 2, 100, len(proof) - 1} {
		failsBoth(t, x, w, steps, api.ErrSteps)
	}
	for _, steps := range []int{len(proof), len(proof) + 1} { // a step, a clause
		if _, same, e := Resolve(x, w, steps); e != api.ErrNone || !reflect.DeepEqual(same, proof) {
			t.Errorf("%d steps: %d clauses, %d", steps, len(same), e)
		}
	}
	finds(t, x, api.Wish{}, nil)
	finds(t, x, api.Wish{Targets: targets("a+x", "g")}, set(member(0, on), member(6)))
}

// TestFewSteps: there is an answer, the same with any number of steps, from some number on; below that there is none.
func TestFewSteps(t *testing.T) {
	x := parsed(t, shop)
	for _, w := range []api.Wish{
		{},
		{Targets: targets("a")},
		{Targets: targets("a<2", "c")},
		{Targets: targets("b", "c")},
		{Targets: targets("a"), Masked: []int{1, 3, 4, 5}},
		{Installed: set(member(0), member(1, on), member(4))},
	} {
		l, proof, want := Resolve(x, w, api.MaxSteps)
		done := false
		for steps := 1; steps < 100; steps++ {
			got, given, e := Resolve(x, w, steps)
			if e == api.ErrSteps && !done {
				fails(t, x, w, steps, e)
				continue
			}
			done = true
			if e != want || !tree.SameSet(got, l) || !reflect.DeepEqual(given, proof) {
				t.Fatalf("%+v in %d steps: %v, %v, %d", w, steps, got, given, e)
			}
		}
		if !done {
			t.Errorf("%+v: not done", w)
		}
	}
}
