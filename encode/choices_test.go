package encode

import (
	"math"
	"reflect"
	"slices"
	"testing"

	"quartermaster/api"
	"quartermaster/tree"
)

const on, off = true, false

// parsed: the tree that s says.
func parsed(t *testing.T, s string) api.Tree {
	t.Helper()
	x, at, e := tree.Parse(s)
	if e != api.OK {
		t.Fatalf("%q: line %d: %d", s, at, e)
	}
	return x
}

// member: the package at place, with these flags on and off.
func member(place int, on ...bool) api.Member { return api.Member{Place: place, On: on} }

func set(l ...api.Member) []api.Member { return l }

func named(names ...string) []api.Atom {
	var l []api.Atom
	for _, name := range names {
		l = append(l, api.Atom{Name: name})
	}
	return l
}

// modelOf: the model of these literals, one a variable, in order.
func modelOf(literals []int) []bool {
	var model []bool
	for _, literal := range literals {
		model = append(model, literal > 0)
	}
	return model
}

// shop has packages with 2, 0, 1 and 2 flags: nine choices.
const shop = "a 1 1 x,y ( )\na 2 1  ( )\nb 1 2 x ( )\nc 3 1 y,z ( )\n"

// TestLiterals: which choice stands where, and which of its signs a set makes hold.
func TestLiterals(t *testing.T) {
	full := set(member(0, on, off), member(1), member(2, on), member(3, off, on))
	for i, c := range []struct {
		w    api.Wish
		l    []api.Member
		want []int
	}{
		// Nothing is there: what is taken holds.
		{api.Wish{}, nil, []int{-1, -2, -3, -4, -5, -6, -7, -8, -9}},
		{api.Wish{}, set(member(1)), []int{-1, 2, -3, -4, -5, -6, -7, -8, -9}},
		{api.Wish{}, full, []int{1, 2, 3, 4, 5, -6, 7, -8, 9}},
		{api.Wish{}, set(member(0, off, on), member(3, on, off)), []int{1, -2, -3, 4, -5, 6, -7, 8, -9}},

		// What is there comes first: what of it isn't taken holds.
		{api.Wish{Installed: set(member(2, off))}, nil, []int{1, -2, -3, -4, -5, -6, -7, -8, -9}},
		{api.Wish{Installed: set(member(2, off))}, set(member(2, on)), []int{-1, -2, -3, -4, -5, -6, 7, -8, -9}},
		{api.Wish{Installed: set(member(2, off))}, set(member(3, off, off)), []int{1, -2, -3, 4, -5, -6, -7, -8, -9}},
		{api.Wish{Installed: set(member(1), member(3, on, on))}, nil, []int{1, 2, -3, -4, -5, -6, -7, -8, -9}},
		{api.Wish{Installed: set(member(1), member(3, on, on))}, set(member(3, off, off)), []int{1, -2, -3, -4, -5, -6, -7, -8, -9}},
		{api.Wish{Installed: set(member(1), member(3, on, on))}, set(member(0, off, off), member(1)), []int{-1, 2, 3, -4, -5, -6, -7, -8, -9}},
		{api.Wish{Installed: full}, full, []int{-1, -2, -3, -4, 5, -6, 7, -8, 9}},
		{api.Wish{Installed: full}, nil, []int{1, 2, 3, 4, -5, -6, -7, -8, -9}},

		// Flags: what isn't as wished holds; of what isn't taken all is as wished, however it is there.
		{api.Wish{On: [][2]int{{0, 1}, {2, 0}, {3, 0}}}, nil, []int{-1, -2, -3, -4, -5, -6, -7, -8, -9}},
		{api.Wish{On: [][2]int{{0, 1}, {2, 0}, {3, 0}}}, full, []int{1, 2, 3, 4, 5, 6, -7, 8, 9}},
		{api.Wish{On: [][2]int{{0, 0}, {0, 1}}}, set(member(0, on, on)), []int{1, -2, -3, -4, -5, -6, -7, -8, -9}},
		{api.Wish{On: [][2]int{{0, 0}, {0, 1}}}, set(member(0, on, off)), []int{1, -2, -3, -4, -5, 6, -7, -8, -9}},
		{api.Wish{On: [][2]int{{3, 1}}, Installed: set(member(3, on, off))}, set(member(3, on, off)), []int{-1, -2, -3, -4, -5, -6, -7, 8, 9}},

		// Whether the set may be has no say.
		{api.Wish{Targets: named("nowhere"), Masked: []int{1}}, set(member(1)), []int{-1, 2, -3, -4, -5, -6, -7, -8, -9}},
	} {
		x := parsed(t, shop)
		got, e := Literals(x, c.w, c.l)
		if !slices.Equal(got, c.want) || e != api.OK {
			t.Errorf("%d: %v, %d, want %v", i, got, e, c.want)
		}
		l, e := Set(x, c.w, modelOf(c.want))
		if !tree.SameSet(l, c.l) || e != api.OK {
			t.Errorf("Set of %d: %v, %d, want %v", i, l, e, c.l)
		}
	}
}

// TestNoChoices: of the tree without packages there is one set, and one model.
func TestNoChoices(t *testing.T) {
	if got, e := Literals(api.Tree{}, api.Wish{}, nil); len(got) != 0 || e != api.OK {
		t.Errorf("Literals: %v, %d", got, e)
	}
	for _, model := range [][]bool{nil, {}, {true}, make([]bool, api.MaxVars)} {
		if got, e := Set(api.Tree{}, api.Wish{}, model); len(got) != 0 || e != api.OK {
			t.Errorf("Set: %v, %d", got, e)
		}
	}
}

// TestUntaken: whatever the flags of packages are that aren't taken, they have no say in the set, nor have variables behind the choices.
func TestUntaken(t *testing.T) {
	x := parsed(t, shop)
	w := api.Wish{Installed: set(member(0, on, on)), On: [][2]int{{2, 0}}}
	for rest := range 1 << 6 {
		model := []bool{true, false, true, false} // b alone is taken
		for k := range 6 {
			model = append(model, rest>>k&1 == 1)
		}
		want := set(member(2, !model[6]))
		if got, e := Set(x, w, model); !tree.SameSet(got, want) || e != api.OK {
			t.Errorf("%v: %v, %d, want %v", model, got, e, want)
		}
	}
}

// TestModelLength: a model has a place for each choice, and no more than a formula may have.
func TestModelLength(t *testing.T) {
	x := parsed(t, shop)
	for length, want := range map[int]api.Errno{
		0: api.ErrForm, 1: api.ErrForm, 8: api.ErrForm,
		9: api.OK, 10: api.OK, api.MaxVars - 1: api.OK, api.MaxVars: api.OK,
		api.MaxVars + 1: api.ErrForm, 100000: api.ErrForm,
	} {
		got, e := Set(x, api.Wish{}, make([]bool, length))
		if len(got) != 0 || e != want {
			t.Errorf("%d: %v, %d, want %d", length, got, e, want)
		}
	}
}

type wrongWish struct {
	w    api.Wish
	want api.Errno
}

// wrongWishes: wishes that may not be, of shop, with the error that is told first.
func wrongWishes() []wrongWish {
	return []wrongWish{
		{api.Wish{Installed: set(member(4))}, api.ErrWho},
		{api.Wish{Installed: set(member(1), member(1))}, api.ErrTwice},
		{api.Wish{Installed: set(member(0, on))}, api.ErrForm},
		{api.Wish{Targets: make([]api.Atom, api.MaxTargets+1)}, api.ErrMany},
		{api.Wish{Targets: named("a", "")}, api.ErrText},
		{api.Wish{Targets: []api.Atom{{Name: "a", Op: 4}}}, api.ErrRange},
		{api.Wish{Targets: []api.Atom{{Name: "a", On: true}}}, api.ErrForm},
		{api.Wish{Masked: []int{math.MinInt}}, api.ErrWho},
		{api.Wish{Masked: []int{4}}, api.ErrWho},
		{api.Wish{Masked: []int{1, 0}}, api.ErrTwice},
		{api.Wish{On: [][2]int{{math.MaxInt, 0}}}, api.ErrWho},
		{api.Wish{On: [][2]int{{1, 0}}}, api.ErrWho},
		{api.Wish{On: [][2]int{{0, 1}, {0, 0}}}, api.ErrTwice},
		{api.Wish{Installed: set(member(0, on)), Masked: []int{4}}, api.ErrForm},
		{api.Wish{Targets: named("A"), On: [][2]int{{1, 0}}}, api.ErrText},
	}
}

// refused: do all calls answer this error, and nothing else, whatever set or model comes with x and w?
func refused(t *testing.T, x api.Tree, w api.Wish, want api.Errno) {
	t.Helper()
	f, e := Encode(x, w)
	if !reflect.DeepEqual(f, api.Formula{}) || e != want {
		t.Errorf("Encode: %v, %d, want %d", f, e, want)
	}
	for _, l := range [][]api.Member{nil, set(member(1)), set(member(9)), set(member(0, on, on, on))} {
		if got, e := Literals(x, w, l); got != nil || e != want {
			t.Errorf("Literals of %v: %v, %d, want %d", l, got, e, want)
		}
	}
	for _, length := range []int{0, 9, api.MaxVars + 1} {
		if got, e := Set(x, w, make([]bool, length)); got != nil || e != want {
			t.Errorf("Set of %d: %v, %d, want %d", length, got, e, want)
		}
	}
}

// TestRefusedWishes: what is wrong with a wish comes ahead of what is wrong with a set or a model.
func TestRefusedWishes(t *testing.T) {
	x := parsed(t, shop)
	for _, c := range wrongWishes() {
		refused(t, x, c.w, c.want)
	}
}

// holdsItself: what goes deeper without end, if one follows it.
func holdsItself() api.Need {
	kids := []api.Need{{Kind: api.All}, {Kind: api.All}}
	kids[0].Kids, kids[1].Kids = kids, kids
	return kids[0]
}

// TestRefusedTrees: what is wrong with a tree comes ahead of what is wrong with a wish.
func TestRefusedTrees(t *testing.T) {
	for want, p := range map[api.Errno]api.Package{
		api.ErrText:  {Name: "A"},
		api.ErrRange: {Name: "a"},
		api.ErrForm:  {Name: "a", Version: 1, Slot: 1},
		api.ErrWho:   {Name: "a", Version: 1, Slot: 1, Need: api.Need{Kind: api.All, Kids: []api.Need{{Kind: api.If, Flag: "x"}}}},
		api.ErrMany:  {Name: "a", Version: 1, Slot: 1, Need: holdsItself()},
	} {
		x := api.Tree{Packages: []api.Package{p}}
		refused(t, x, api.Wish{}, want)
		refused(t, x, api.Wish{Targets: make([]api.Atom, 9), Installed: set(member(0), member(0)), Masked: []int{-1}}, want)
	}
	refused(t, api.Tree{Packages: make([]api.Package, api.MaxPackages+1)}, api.Wish{}, api.ErrMany)
}

// TestRefusedSets: Literals takes sets alone.
func TestRefusedSets(t *testing.T) {
	x := parsed(t, shop)
	for i, c := range []struct {
		l    []api.Member
		want api.Errno
	}{
		{set(member(4)), api.ErrWho},
		{set(member(-1)), api.ErrWho},
		{set(member(math.MaxInt)), api.ErrWho},
		{set(member(1), member(1)), api.ErrTwice},
		{set(member(2, on), member(1)), api.ErrTwice},
		{set(member(0)), api.ErrForm},
		{set(member(1, on)), api.ErrForm},
		{set(member(1), member(2, on, on), member(4)), api.ErrForm},
		{slices.Repeat(set(member(3, on, on)), 100000), api.ErrTwice},
	} {
		if got, e := Literals(x, api.Wish{}, c.l); got != nil || e != c.want {
			t.Errorf("%d: %v, %d, want %d", i, got, e, c.want)
		}
	}
}
