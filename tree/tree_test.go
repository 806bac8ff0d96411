package tree

import (
	"math"
	"reflect"
	"slices"
	"strconv"
	"strings"
	"testing"

	"quartermaster/api"
)

func want(name string) api.Need { return api.Need{Kind: api.Want, A: api.Atom{Name: name}} }

func all(kids ...api.Need) api.Need { return api.Need{Kind: api.All, Kids: kids} }

func when(flag string, kids ...api.Need) api.Need {
	return api.Need{Kind: api.If, Flag: flag, Kids: kids}
}

func unless(flag string, kids ...api.Need) api.Need {
	return api.Need{Kind: api.If, Flag: flag, Not: true, Kids: kids}
}

// holdsItself: what goes deeper without end, if one follows it.
func holdsItself() api.Need {
	kids := []api.Need{all(), all()}
	kids[0].Kids, kids[1].Kids = kids, kids
	return kids[0]
}

// plain: a package of slot 1 that needs nothing.
func plain(name string, version int, flags ...string) api.Package {
	return api.Package{Name: name, Version: version, Slot: 1, Flags: flags, Need: all()}
}

func needing(n api.Need, flags ...string) api.Package {
	p := plain("a", 1, flags...)
	p.Need = n
	return p
}

func of(packages ...api.Package) api.Tree { return api.Tree{Packages: packages} }

// many: packages of one name, the first of them with so many flags.
func many(packages int, flags ...int) api.Tree {
	var t api.Tree
	for k := range packages {
		p := plain("a", k+1)
		if k < len(flags) {
			p.Flags = []string{"x", "y", "z"}[:flags[k]]
		}
		t.Packages = append(t.Packages, p)
	}
	return t
}

// put: t, with p at place k.
func put(t api.Tree, k int, p api.Package) api.Tree {
	t.Packages[k] = p
	return t
}

// rightTrees: trees that may be, as they are written.
func rightTrees() map[string]api.Tree {
	longest := api.Package{Name: "z2345678", Version: api.MaxVersion, Slot: api.MaxSlot, Flags: []string{"abcdefgh", "abcdefgi"}, Need: all(want("nowhere"), when("abcdefgi", unless("abcdefgh")))}
	return map[string]api.Tree{
		"":                              {},
		"a 1 1  ( )\n":                  of(plain("a", 1)),
		"a 1 1 x ( )\n":                 of(plain("a", 1, "x")),
		"a 1 1 a,b ( )\n":               of(plain("a", 1, "a", "b")),
		"a 1 1 a,a1 ( )\n":              of(plain("a", 1, "a", "a1")),
		"a 1 1 a10,a9 ( )\n":            of(plain("a", 1, "a10", "a9")),
		"a 9 1  ( )\na 10 1  ( )\n":     of(plain("a", 9), plain("a", 10)),
		"a 9 1  ( )\nb 1 1  ( )\n":      of(plain("a", 9), plain("b", 1)),
		"a 2 1  ( )\na1 1 1  ( )\n":     of(plain("a", 2), plain("a1", 1)),
		"a10 1 1  ( )\na9 1 1  ( )\n":   of(plain("a10", 1), plain("a9", 1)),
		"a 1 1 x ( )\nb 1 1 x ( )\n":    of(plain("a", 1, "x"), plain("b", 1, "x")),
		"a 1 1  ( a )\n":                of(needing(all(want("a")))),
		"a 1 1 x ( x? ( b ) )\n":        of(needing(all(when("x", want("b"))), "x")),
		"a 1 1 x,y ( ( !y? ( b ) ) )\n": of(needing(all(all(unless("y", want("b")))), "x", "y")),
		"z2345678 99 9 abcdefgh,abcdefgi ( nowhere abcdefgi? ( !abcdefgh? ( ) ) )\n": of(longest),
		// As many packages and flags as may be.
		"a 1 1 x,y ( )\na 2 1 x,y ( )\na 3 1 x,y ( )\na 4 1  ( )\na 5 1  ( )\na 6 1  ( )\na 7 1  ( )\na 8 1  ( )\n": many(8, 2, 2, 2),
		"a 1 1  ( )\na 2 1  ( )\na 3 1 x ( )\na 4 1 x ( )\na 5 1 x ( )\na 6 1 x ( )\na 7 1 x ( )\na 8 1 x ( )\n":    many(8, 0, 0, 1, 1, 1, 1, 1, 1),
		"a 1 1 x,y ( )\na 2 1 x,y ( )\na 3 1 x,y ( )\na 4 1 x,y ( )\n":                                              many(4, 2, 2, 2, 2),
		"a 1 1 x,y ( )\na 2 1 x,y ( )\na 3 1 x,y ( )\na 4 1 x,y ( )\na 5 1 x ( )\n":                                 many(5, 2, 2, 2, 2, 1),
	}
}

type wrongTree struct {
	t    api.Tree
	want api.Errno
}

// wrongTrees: trees that may not be, with the error that is told first.
func wrongTrees() []wrongTree {
	return slices.Concat(wrongNumbers(), wrongFlags(), wrongNeeds(), wrongPlaces(), wrongTogether())
}

func wrongNumbers() []wrongTree {
	var list []wrongTree
	for _, name := range []string{"", "A", "1a", "abcdefghi", "a b", "a\n", "\xff"} {
		list = append(list, wrongTree{of(plain(name, 1)), api.ErrText}, wrongTree{of(plain("a", 1), plain(name, 1)), api.ErrText})
	}
	for _, version := range []int{0, -1, api.MaxVersion + 1, math.MinInt, math.MaxInt} {
		list = append(list, wrongTree{of(plain("a", version)), api.ErrRange})
	}
	for _, slot := range []int{0, -1, api.MaxSlot + 1, math.MinInt, math.MaxInt} {
		p := plain("a", 1)
		p.Slot = slot
		list = append(list, wrongTree{of(p), api.ErrRange})
	}
	return append(list,
		wrongTree{of(api.Package{}), api.ErrText},
		wrongTree{many(api.MaxPackages + 1), api.ErrMany},
		wrongTree{many(100000), api.ErrMany},
		wrongTree{api.Tree{Packages: make([]api.Package, api.MaxPackages+1)}, api.ErrMany},
	)
}

func wrongFlags() []wrongTree {
	return []wrongTree{
		{of(plain("a", 1, "x", "y", "z")), api.ErrMany},
		{of(plain("a", 1, make([]string, 100000)...)), api.ErrMany},
		{of(plain("a", 1, "")), api.ErrText},
		{of(plain("a", 1, "X")), api.ErrText},
		{of(plain("a", 1, "x", "")), api.ErrText},
		{of(plain("a", 1, "x,y")), api.ErrText},
		{of(plain("a", 1, "abcdefghi")), api.ErrText},
		{of(plain("a", 1, "x", "x")), api.ErrTwice},
		{of(plain("a", 1, "y", "x")), api.ErrTwice},
		{of(plain("a", 1, "x1", "x")), api.ErrTwice},
		{of(plain("a", 1, "a9", "a10")), api.ErrTwice},
		// Of one flag, how it is written comes first: X is below x.
		{of(plain("a", 1, "x", "X")), api.ErrText},
	}
}

func wrongNeeds() []wrongTree {
	wide := all(slices.Repeat([]api.Need{want("b")}, api.MaxNodes)...)
	outOfRange := all(api.Need{Kind: api.Want, A: api.Atom{Name: "a", Slot: api.MaxSlot + 1}})
	return []wrongTree{
		{of(needing(api.Need{})), api.ErrForm},
		{of(needing(want("b"))), api.ErrForm},
		{of(needing(api.Need{Kind: api.Block, A: api.Atom{Name: "b"}})), api.ErrForm},
		{of(needing(api.Need{Kind: api.Some})), api.ErrForm},
		{of(needing(when("x"), "x")), api.ErrForm},
		{of(needing(api.Need{Kind: 6})), api.ErrForm},
		{of(needing(api.Need{Kind: -1})), api.ErrForm},
		// That it is an All comes ahead of how much is in it.
		{of(needing(api.Need{Kind: api.Some, Kids: wide.Kids})), api.ErrForm},
		{of(needing(api.Need{Kind: api.Some, Kids: holdsItself().Kids})), api.ErrForm},
		// Chapter 2's errors.
		{of(needing(wide)), api.ErrMany},
		{of(needing(all(all(all(all(all())))))), api.ErrMany},
		{of(needing(holdsItself())), api.ErrMany},
		{of(needing(outOfRange)), api.ErrRange},
		{of(needing(all(want("B")))), api.ErrText},
		{of(needing(all(when("X")))), api.ErrText},
		{of(needing(all(api.Need{}))), api.ErrForm},
		{of(needing(api.Need{Kind: api.All, Not: true})), api.ErrForm},
		// Flags that the package hasn't got.
		{of(needing(all(when("x")))), api.ErrWho},
		{of(needing(all(unless("x")), "y")), api.ErrWho},
		{of(needing(all(when("x", when("y"))), "x")), api.ErrWho},
		{of(needing(all(all(all(when("z")))), "x", "y")), api.ErrWho},
		{of(plain("a", 1, "x"), api.Package{Name: "b", Version: 1, Slot: 1, Need: all(when("x"))}), api.ErrWho},
		// Chapter 2's come ahead of that.
		{of(needing(all(when("x"), want("B")))), api.ErrText},
		{of(needing(all(when("x"), outOfRange))), api.ErrRange},
	}
}

// wrongPlaces: packages that don't stand where they must, or are too many with their flags.
func wrongPlaces() []wrongTree {
	otherSlot := plain("a", 1)
	otherSlot.Slot = 2
	return []wrongTree{
		{of(plain("a", 1), plain("a", 1)), api.ErrTwice},
		{of(plain("a", 1), otherSlot), api.ErrTwice},
		{of(plain("a", 1), plain("a", 1, "x")), api.ErrTwice},
		{of(plain("a", 2), plain("a", 1)), api.ErrTwice},
		{of(plain("a", 10), plain("a", 9)), api.ErrTwice},
		{of(plain("b", 1), plain("a", 2)), api.ErrTwice},
		{of(plain("a9", 1), plain("a10", 2)), api.ErrTwice},
		{of(plain("a1", 1), plain("a", 2)), api.ErrTwice},
		{of(plain("a", 1), plain("b", 1), plain("a", 2)), api.ErrTwice},
		{many(8, 2, 2, 2, 1), api.ErrMany},
		{many(8, 0, 1, 1, 1, 1, 1, 1, 1), api.ErrMany},
		{many(5, 2, 2, 2, 2, 2), api.ErrMany},
	}
}

// wrongTogether: several errors at once.
func wrongTogether() []wrongTree {
	badName, badNeed := plain("A", 4), plain("a", 4)
	badNeed.Need = api.Need{}
	return []wrongTree{
		// Of one package, in the order of the chapter.
		{of(api.Package{Name: "A", Version: 0}), api.ErrText},
		{of(plain("a", 0, "x", "y", "z")), api.ErrRange},
		{of(plain("a", 1, "Z", "Y", "X")), api.ErrMany},
		{of(plain("a", 1, "y", "x", "x")), api.ErrMany},
		{of(needing(api.Need{}, "X")), api.ErrText},
		{of(needing(api.Need{}, "x", "x")), api.ErrTwice},
		{of(plain("a", 1), needing(all(when("x")))), api.ErrWho},
		{of(plain("a", 1), needing(want("b"))), api.ErrForm},
		{of(plain("b", 1), plain("a", 1, "X")), api.ErrText},
		{of(plain("b", 1), plain("a", 0)), api.ErrRange},
		{put(many(8, 2, 2, 2, 1), 3, plain("a", 3, "x")), api.ErrTwice},
		// The package that is ahead says its errors first, that flags are too many by then too.
		{of(plain("a", 0), plain("A", 1)), api.ErrRange},
		{of(plain("a", 1, "x", "x"), plain("A", 1)), api.ErrTwice},
		{of(plain("a", 1), plain("a", 1), plain("A", 1)), api.ErrTwice},
		{of(needing(all(when("x"))), plain("a", 1)), api.ErrWho},
		{put(many(8, 2, 2, 2, 1), 4, badName), api.ErrMany},
		{put(many(8, 2, 2, 2, 1), 3, badNeed), api.ErrForm},
		{put(many(8, 2, 2, 0, 2, 1), 3, badNeed), api.ErrForm},
		// Too many packages come ahead of all.
		{put(many(api.MaxPackages+1, 2, 2, 2, 2, 2), 0, badName), api.ErrMany},
	}
}

func TestCheckTakes(t *testing.T) {
	for s, x := range rightTrees() {
		if e := Check(x); e != api.OK {
			t.Errorf("%q: %d", s, e)
		}
	}
	if e := Check(of(api.Package{Name: "a", Version: 1, Slot: 1, Flags: []string{}, Need: api.Need{Kind: api.All, Kids: []api.Need{}}})); e != api.OK {
		t.Errorf("empty lists: %d", e)
	}
}

// TestRefused: all calls that are given a tree tell what is wrong with it, ahead of what is wrong with the rest.
func TestRefused(t *testing.T) {
	for i, c := range wrongTrees() {
		if e := Check(c.t); e != c.want {
			t.Errorf("Check of %d: %d, want %d", i, e, c.want)
		}
		if s, e := Print(c.t); s != "" || e != c.want {
			t.Errorf("Print of %d: %q, %d, want %d", i, s, e, c.want)
		}
		for _, a := range []api.Atom{{Name: "a"}, {}, {Name: "a", Op: 9}, {Name: "a", On: true}} {
			if places, e := Means(c.t, a); places != nil || e != c.want {
				t.Errorf("Means of %d, %+v: %v, %d, want %d", i, a, places, e, c.want)
			}
		}
		for _, l := range [][]api.Member{nil, {{Place: -1}}, {{Place: 0}, {Place: 0}}, {{On: make([]bool, 9)}}} {
			if e := CheckSet(c.t, l); e != c.want {
				t.Errorf("CheckSet of %d, %v: %d, want %d", i, l, e, c.want)
			}
		}
	}
}

// shop: a tree with two versions, and two slots, of one name.
func shop() api.Tree {
	packages := []api.Package{plain("a", 1, "x"), plain("a", 2, "x", "y"), plain("a", 3), plain("a1", 2, "x"), plain("x", 1)}
	packages[2].Slot = 2
	return of(packages...)
}

func TestMeans(t *testing.T) {
	for s, c := range map[string]struct {
		a    api.Atom
		want []int
	}{
		"a":           {api.Atom{Name: "a"}, []int{0, 1, 2}},
		"a=2":         {api.Atom{Name: "a", Op: api.Just, Version: 2}, []int{1}},
		"a>=2":        {api.Atom{Name: "a", Op: api.Least, Version: 2}, []int{1, 2}},
		"a<2":         {api.Atom{Name: "a", Op: api.Below, Version: 2}, []int{0}},
		"a<1":         {api.Atom{Name: "a", Op: api.Below, Version: 1}, nil},
		"a>=4":        {api.Atom{Name: "a", Op: api.Least, Version: 4}, nil},
		"a:1":         {api.Atom{Name: "a", Slot: 1}, []int{0, 1}},
		"a:2":         {api.Atom{Name: "a", Slot: 2}, []int{2}},
		"a:3":         {api.Atom{Name: "a", Slot: 3}, nil},
		"a+x":         {api.Atom{Name: "a", Flag: "x", On: true}, []int{0, 1}},
		"a-x":         {api.Atom{Name: "a", Flag: "x"}, []int{0, 1}},
		"a+y":         {api.Atom{Name: "a", Flag: "y", On: true}, []int{1}},
		"a-z":         {api.Atom{Name: "a", Flag: "z"}, nil},
		"a>=2:1-x":    {api.Atom{Name: "a", Op: api.Least, Version: 2, Slot: 1, Flag: "x"}, []int{1}},
		"a>=3:1":      {api.Atom{Name: "a", Op: api.Least, Version: 3, Slot: 1}, nil},
		"a1":          {api.Atom{Name: "a1"}, []int{3}},
		"x":           {api.Atom{Name: "x"}, []int{4}},
		"x+x":         {api.Atom{Name: "x", Flag: "x", On: true}, nil},
		"b":           {api.Atom{Name: "b"}, nil},
		"a2":          {api.Atom{Name: "a2"}, nil},
		"z2345678<99": {api.Atom{Name: "z2345678", Op: api.Below, Version: 99}, nil},
	} {
		if got, e := Means(shop(), c.a); !slices.Equal(got, c.want) || e != api.OK {
			t.Errorf("%s: %v, %d, want %v", s, got, e, c.want)
		}
		if got, e := Means(api.Tree{}, c.a); len(got) != 0 || e != api.OK {
			t.Errorf("%s in no tree: %v, %d", s, got, e)
		}
	}
}

func TestMeansRefuses(t *testing.T) {
	for a, want := range map[api.Atom]api.Errno{
		{}:                           api.ErrText,
		{Name: "A"}:                  api.ErrText,
		{Name: "a", Flag: "X"}:       api.ErrText,
		{Name: "a", Op: 4}:           api.ErrRange,
		{Name: "a", Version: 1}:      api.ErrRange,
		{Name: "a", Slot: -1}:        api.ErrRange,
		{Name: "a", On: true}:        api.ErrForm,
		{Name: "b", Op: api.Just}:    api.ErrRange,
		{Name: "nowhere1", On: true}: api.ErrForm,
	} {
		for _, x := range []api.Tree{{}, shop()} {
			if got, e := Means(x, a); got != nil || e != want {
				t.Errorf("%+v: %v, %d, want %d", a, got, e, want)
			}
		}
	}
}

// TestMeansOfAllAtoms goes through every version, slot and flag that a tree has, and those beside them, and asks what the chapter says in a way of its own.
func TestMeansOfAllAtoms(t *testing.T) {
	versions := [4]func(version, asked int) bool{
		api.Any:   func(version, asked int) bool { return true },
		api.Just:  func(version, asked int) bool { return version == asked },
		api.Least: func(version, asked int) bool { return version >= asked },
		api.Below: func(version, asked int) bool { return version < asked },
	}
	x := shop()
	for op, fits := range versions {
		for asked := range 5 {
			if (op == api.Any) != (asked == 0) {
				continue
			}
			for slot := range 4 {
				for _, name := range []string{"a", "a1", "b", "x"} {
					for _, flag := range []string{"", "x", "y", "z"} {
						var expected []int
						for k, p := range x.Packages {
							if p.Name == name && fits(p.Version, asked) && (slot == 0 || p.Slot == slot) && (flag == "" || strings.Contains(strings.Join(p.Flags, ""), flag)) {
								expected = append(expected, k)
							}
						}
						a := api.Atom{Name: name, Op: op, Version: asked, Slot: slot, Flag: flag}
						for _, a.On = range []bool{false, flag != ""} {
							if got, e := Means(x, a); !slices.Equal(got, expected) || e != api.OK {
								t.Errorf("%+v: %v, %d, want %v", a, got, e, expected)
							}
						}
					}
				}
			}
		}
	}
}

// TestOnlyRead: neither lists that are handed in nor the room behind them are changed.
func TestOnlyRead(t *testing.T) {
	build := func() ([]api.Package, []api.Member) {
		flags := []string{"x", "y", "behind"}
		kids := []api.Need{when("y", want("b")), unless("x"), want("behind")}
		packages := []api.Package{needing(all(kids[:2]...), flags[:2]...), plain("b", 1), plain("behind", 0)}
		on := []bool{true, false, true}
		return packages, []api.Member{{Place: 0, On: on[:2]}, {Place: 1}, {Place: -1}}
	}
	packages, members := build()
	x, l := of(packages[:2]...), members[:2]
	s, e := Print(x)
	if s != "a 1 1 x,y ( y? ( b ) !x? ( ) )\nb 1 1  ( )\n" || e != api.OK || Check(x) != api.OK || CheckSet(x, l) != api.OK || !SameSet(l, l) {
		t.Fatalf("%q, %d", s, e)
	}
	places, _ := Means(x, api.Atom{Name: "b"})
	places[0] = 7
	again, _ := Means(x, api.Atom{Name: "b"})
	wantPackages, wantMembers := build()
	if again[0] != 1 || !reflect.DeepEqual(room(packages), room(wantPackages)) || !reflect.DeepEqual(members, wantMembers) || !reflect.DeepEqual(members[0].On[:3], wantMembers[0].On[:3]) {
		t.Errorf("changed: %+v, %+v", packages, members)
	}
}

// room: packages with all that stands behind their lists.
func room(packages []api.Package) []api.Package {
	packages = slices.Clone(packages)
	for k, p := range packages {
		packages[k].Flags = p.Flags[:cap(p.Flags)]
		packages[k].Need.Kids = p.Need.Kids[:cap(p.Need.Kids)]
	}
	return packages
}

// TestParseIsNewMemory: a change of one list of an answer isn't seen in another.
func TestParseIsNewMemory(t *testing.T) {
	const s = "a 1 1 x,y ( c )\nb 1 1 x,y ( c )\n"
	first, _, _ := Parse(s)
	second, _, _ := Parse(s)
	p := &first.Packages[0]
	_ = append(p.Flags, "z")
	_ = append(p.Need.Kids, want("d"))
	p.Flags[0], p.Flags[1], p.Need.Kids[0] = "u", "v", want("e")
	if got, e := Print(first); got != strings.Replace(s, "x,y ( c )", "u,v ( e )", 1) || e != api.OK {
		t.Errorf("%q, %d", got, e)
	}
	if got, e := Print(second); got != s || e != api.OK {
		t.Errorf("%q, %d", got, e)
	}
}

// TestPrintOfNumbers: they are told as strconv.Itoa does, over their whole range.
func TestPrintOfNumbers(t *testing.T) {
	for version := range api.MaxVersion + 2 {
		for slot := range api.MaxSlot + 2 {
			x := of(plain("a", version))
			x.Packages[0].Slot = slot
			s, e := Print(x)
			if version == 0 || version > api.MaxVersion || slot == 0 || slot > api.MaxSlot {
				if s != "" || e != api.ErrRange {
					t.Errorf("%d, %d: %q, %d", version, slot, s, e)
				}
				continue
			}
			if s != "a "+strconv.Itoa(version)+" "+strconv.Itoa(slot)+"  ( )\n" || e != api.OK {
				t.Errorf("%d, %d: %q, %d", version, slot, s, e)
			}
		}
	}
}
