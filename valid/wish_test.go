package valid

import (
	"math"
	"slices"
	"testing"

	"quartermaster/api"
	"quartermaster/tree"
)

// parsed: the tree that s says.
func parsed(t *testing.T, s string) api.Tree {
	t.Helper()
	x, at, e := tree.Parse(s)
	if e != api.OK {
		t.Fatalf("%q: line %d: %d", s, at, e)
	}
	return x
}

// member: the package at place, with these flags on and off.
func member(place int, on ...bool) api.Member { return api.Member{Place: place, On: on} }

func set(l ...api.Member) []api.Member { return l }

func named(names ...string) []api.Atom {
	var l []api.Atom
	for _, name := range names {
		l = append(l, api.Atom{Name: name})
	}
	return l
}

// shop has packages with 2, 0, 1 and 2 flags.
const shop = "a 1 1 x,y ( )\na 2 1  ( )\nb 1 2 x ( )\nc 3 1 y,z ( )\n"

// rightWishes: wishes that may be, of shop.
func rightWishes() []api.Wish {
	return []api.Wish{
		{},
		{Targets: []api.Atom{}, Installed: set(), Masked: []int{}, On: [][2]int{}},
		{Targets: named("a", "a", "nowhere", "b", "c", "a")},
		{Targets: []api.Atom{{Name: "a", Op: api.Below, Version: 99, Slot: 9, Flag: "none", On: true}}},
		{Installed: set(member(0, true, false), member(1), member(2, false), member(3, true, true))},
		{Installed: set(member(0, true, false), member(1)), Masked: []int{0, 1}},
		{Masked: []int{0, 1, 2, 3}},
		{Masked: []int{0, 3}},
		{Masked: []int{3}},
		{On: [][2]int{{0, 0}}},
		{On: [][2]int{{0, 1}, {2, 0}}},
		{On: [][2]int{{0, 0}, {0, 1}, {2, 0}, {3, 0}, {3, 1}}},
		{Targets: named("a"), Installed: set(member(1)), Masked: []int{2}, On: [][2]int{{3, 1}}},
	}
}

type wrongWish struct {
	w    api.Wish
	want api.Errno
}

// wrongWishes: wishes that may not be, of shop, with the error that is told first.
func wrongWishes() []wrongWish {
	return slices.Concat(wrongInstalled(), wrongTargets(), wrongMasked(), wrongOn(), wrongTogether())
}

func wrongInstalled() []wrongWish {
	return []wrongWish{
		{api.Wish{Installed: set(member(4))}, api.ErrWho},
		{api.Wish{Installed: set(member(-1))}, api.ErrWho},
		{api.Wish{Installed: set(member(1), member(1))}, api.ErrTwice},
		{api.Wish{Installed: set(member(2, true), member(1))}, api.ErrTwice},
		{api.Wish{Installed: set(member(0))}, api.ErrForm},
		{api.Wish{Installed: set(member(1, false))}, api.ErrForm},
	}
}

func wrongTargets() []wrongWish {
	return []wrongWish{
		{api.Wish{Targets: named("a", "a", "a", "a", "a", "a", "a")}, api.ErrMany},
		{api.Wish{Targets: make([]api.Atom, api.MaxTargets+1)}, api.ErrMany},
		{api.Wish{Targets: make([]api.Atom, 100000)}, api.ErrMany},
		{api.Wish{Targets: make([]api.Atom, 1)}, api.ErrText},
		{api.Wish{Targets: named("a", "B")}, api.ErrText},
		{api.Wish{Targets: []api.Atom{{Name: "a", Op: 4}}}, api.ErrRange},
		{api.Wish{Targets: []api.Atom{{Name: "a", On: true}}}, api.ErrForm},
		{api.Wish{Targets: []api.Atom{{Name: "a", Slot: 10}, {Name: "A"}}}, api.ErrRange},
		{api.Wish{Targets: []api.Atom{{Name: "a", On: true}, {Name: "a", Slot: 10}}}, api.ErrForm},
	}
}

func wrongMasked() []wrongWish {
	return []wrongWish{
		{api.Wish{Masked: []int{4}}, api.ErrWho},
		{api.Wish{Masked: []int{-1}}, api.ErrWho},
		{api.Wish{Masked: []int{math.MinInt}}, api.ErrWho},
		{api.Wish{Masked: []int{math.MaxInt}}, api.ErrWho},
		{api.Wish{Masked: []int{0, 1, 2, 3, 4}}, api.ErrWho},
		{api.Wish{Masked: []int{0, 0}}, api.ErrTwice},
		{api.Wish{Masked: []int{0, 2, 1}}, api.ErrTwice},
		{api.Wish{Masked: []int{3, 0, 3}}, api.ErrTwice},
		{api.Wish{Masked: slices.Repeat([]int{3}, 100000)}, api.ErrTwice},
		// Of one place, that there is none comes first; else the first place's.
		{api.Wish{Masked: []int{3, -1}}, api.ErrWho},
		{api.Wish{Masked: []int{4, 4}}, api.ErrWho},
		{api.Wish{Masked: []int{1, 1, 4}}, api.ErrTwice},
	}
}

func wrongOn() []wrongWish {
	return []wrongWish{
		{api.Wish{On: [][2]int{{4, 0}}}, api.ErrWho},
		{api.Wish{On: [][2]int{{-1, 0}}}, api.ErrWho},
		{api.Wish{On: [][2]int{{math.MaxInt, 0}}}, api.ErrWho},
		{api.Wish{On: [][2]int{{math.MinInt, math.MinInt}}}, api.ErrWho},
		{api.Wish{On: [][2]int{{1, 0}}}, api.ErrWho},
		{api.Wish{On: [][2]int{{2, 1}}}, api.ErrWho},
		{api.Wish{On: [][2]int{{0, 2}}}, api.ErrWho},
		{api.Wish{On: [][2]int{{0, -1}}}, api.ErrWho},
		{api.Wish{On: [][2]int{{0, math.MaxInt}}}, api.ErrWho},
		{api.Wish{On: [][2]int{{0, 0}, {0, 0}}}, api.ErrTwice},
		{api.Wish{On: [][2]int{{0, 1}, {0, 0}}}, api.ErrTwice},
		{api.Wish{On: [][2]int{{2, 0}, {0, 1}}}, api.ErrTwice},
		{api.Wish{On: [][2]int{{0, 0}, {2, 0}, {0, 1}}}, api.ErrTwice},
		{api.Wish{On: slices.Repeat([][2]int{{3, 1}}, 100000)}, api.ErrTwice},
		// Of one pair, that there is none comes first; else the first pair's.
		{api.Wish{On: [][2]int{{2, 0}, {1, 0}}}, api.ErrWho},
		{api.Wish{On: [][2]int{{0, 1}, {0, -1}}}, api.ErrWho},
		{api.Wish{On: [][2]int{{0, 2}, {0, 2}}}, api.ErrWho},
		{api.Wish{On: [][2]int{{0, 0}, {0, 0}, {1, 0}}}, api.ErrTwice},
	}
}

// wrongTogether: Installed comes first, then the targets, how many they are first, then Masked, then On.
func wrongTogether() []wrongWish {
	tooMany, targets := make([]api.Atom, api.MaxTargets+1), make([]api.Atom, 1)
	masked, on := []int{0, 0}, [][2]int{{1, 0}}
	return []wrongWish{
		{api.Wish{Installed: set(member(0)), Targets: tooMany, Masked: masked, On: on}, api.ErrForm},
		{api.Wish{Installed: set(member(4)), Targets: targets, Masked: masked, On: on}, api.ErrWho},
		{api.Wish{Targets: tooMany, Masked: masked, On: on}, api.ErrMany},
		{api.Wish{Targets: targets, Masked: masked, On: on}, api.ErrText},
		{api.Wish{Targets: targets, Masked: []int{4}, On: on}, api.ErrText},
		{api.Wish{Targets: targets, On: on}, api.ErrText},
		{api.Wish{Masked: masked, On: on}, api.ErrTwice},
		{api.Wish{Masked: []int{4}, On: [][2]int{{0, 0}, {0, 0}}}, api.ErrWho},
	}
}

func TestCheckWishTakes(t *testing.T) {
	x := parsed(t, shop)
	for i, w := range rightWishes() {
		if e := CheckWish(x, w); e != api.OK {
			t.Errorf("%d: %d", i, e)
		}
	}
}

// TestRefusedWishes: what is wrong with a wish comes ahead of what is wrong with the set.
func TestRefusedWishes(t *testing.T) {
	x := parsed(t, shop)
	for i, c := range wrongWishes() {
		if e := CheckWish(x, c.w); e != c.want {
			t.Errorf("CheckWish of %d: %d, want %d", i, e, c.want)
		}
		for _, l := range [][]api.Member{nil, set(member(1)), set(member(0)), set(member(4))} {
			if may, e := Valid(x, c.w, l); may || e != c.want {
				t.Errorf("Valid of %d: %v, %d, want %d", i, may, e, c.want)
			}
		}
	}
}

// holdsItself: what goes deeper without end, if one follows it.
func holdsItself() api.Need {
	kids := []api.Need{{Kind: api.All}, {Kind: api.All}}
	kids[0].Kids, kids[1].Kids = kids, kids
	return kids[0]
}

// TestRefusedTrees: what is wrong with a tree comes ahead of all else.
func TestRefusedTrees(t *testing.T) {
	for want, p := range map[api.Errno]api.Package{
		api.ErrText:  {Name: "A"},
		api.ErrRange: {Name: "a"},
		api.ErrForm:  {Name: "a", Version: 1, Slot: 1},
		api.ErrWho:   {Name: "a", Version: 1, Slot: 1, Need: api.Need{Kind: api.All, Kids: []api.Need{{Kind: api.If, Flag: "x"}}}},
		api.ErrMany:  {Name: "a", Version: 1, Slot: 1, Need: holdsItself()},
	} {
		x := api.Tree{Packages: []api.Package{p}}
		for _, l := range [][]api.Member{nil, set(member(0)), set(member(0), member(0)), set(member(1))} {
			w := api.Wish{Targets: make([]api.Atom, 9), Installed: l}
			if e := CheckWish(x, w); e != want {
				t.Errorf("CheckWish: %d, want %d", e, want)
			}
			if holds, e := Holds(x, l, -1); holds || e != want {
				t.Errorf("Holds: %v, %d, want %d", holds, e, want)
			}
			if may, e := Valid(x, w, l); may || e != want {
				t.Errorf("Valid: %v, %d, want %d", may, e, want)
			}
		}
	}
}
