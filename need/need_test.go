package need

import (
	"reflect"
	"slices"
	"strings"
	"testing"

	"quartermaster/api"
)

func want(name string) api.Need { return api.Need{Kind: api.Want, A: api.Atom{Name: name}} }

func block(name string) api.Need { return api.Need{Kind: api.Block, A: api.Atom{Name: name}} }

func all(kids ...api.Need) api.Need { return api.Need{Kind: api.All, Kids: kids} }

func some(kids ...api.Need) api.Need { return api.Need{Kind: api.Some, Kids: kids} }

func when(flag string, kids ...api.Need) api.Need {
	return api.Need{Kind: api.If, Flag: flag, Kids: kids}
}

func unless(flag string, kids ...api.Need) api.Need {
	return api.Need{Kind: api.If, Flag: flag, Not: true, Kids: kids}
}

// nested: inner, with so many Alls around it.
func nested(inner api.Need, around int) api.Need {
	for range around {
		inner = all(inner)
	}
	return inner
}

// holdsItself: what goes deeper without end, if one follows it.
func holdsItself() api.Need {
	kids := make([]api.Need, 2)
	kids[0], kids[1] = all(), all()
	kids[0].Kids, kids[1].Kids = kids, kids
	return kids[0]
}

// wide: an All with so many Kids.
func wide(kids int) api.Need { return all(slices.Repeat([]api.Need{want("a")}, kids)...) }

// rightNeeds: needs that may be, as they are written.
func rightNeeds() map[string]api.Need {
	full := api.Atom{Name: "abcdefgh", Op: api.Least, Version: 99, Slot: 9, Flag: "y2345678", On: true}
	return map[string]api.Need{
		"a":                            want("a"),
		"!a":                           block("a"),
		"( )":                          all(),
		"|| ( )":                       some(),
		"x? ( )":                       when("x"),
		"!x? ( )":                      unless("x"),
		"( a )":                        all(want("a")),
		"|| ( a !b )":                  some(want("a"), block("b")),
		"abcdefgh? ( !a )":             when("abcdefgh", block("a")),
		"!x9? ( ( ) || ( ) y? ( ) )":   unless("x9", all(), some(), when("y")),
		"( b || ( c d ) x? ( !e ) )":   all(want("b"), some(want("c"), want("d")), when("x", block("e"))),
		"( ( ( a ) b ) c )":            all(all(all(want("a")), want("b")), want("c")),
		"( ( ( ( ) ) ) )":              nested(all(), api.MaxDepth-1),
		"|| ( x? ( !x? ( a ) ) )":      some(when("x", unless("x", want("a")))),
		"( a a a )":                    all(want("a"), want("a"), want("a")),
		"abcdefgh>=99:9+y2345678":      {Kind: api.Want, A: full},
		"( !abcdefgh>=99:9+y2345678 )": all(api.Need{Kind: api.Block, A: full}),
		"(" + strings.Repeat(" a", api.MaxNodes-1) + " )": wide(api.MaxNodes - 1),
	}
}

// wrongNeeds: needs that may not be, with the error that is told first.
func wrongNeeds() []struct {
	n    api.Need
	want api.Errno
} {
	x := api.Atom{Name: "x"}
	outOfRange := api.Need{Kind: api.Want, A: api.Atom{Name: "a", Slot: 10}}
	onAlone := api.Need{Kind: api.Block, A: api.Atom{Name: "a", On: true}}
	return []struct {
		n    api.Need
		want api.Errno
	}{
		// Too many, too deep; that comes ahead of all else.
		{wide(api.MaxNodes), api.ErrMany},
		{wide(100000), api.ErrMany},
		{all(wide(9), wide(9)), api.ErrMany},
		{nested(want("a"), api.MaxDepth), api.ErrMany},
		{nested(all(), api.MaxDepth), api.ErrMany},
		{nested(all(), 100000), api.ErrMany},
		{all(want("a"), nested(all(), api.MaxDepth-1), want("b")), api.ErrMany},
		{holdsItself(), api.ErrMany},
		{api.Need{Kids: nested(all(), api.MaxDepth).Kids}, api.ErrMany},
		{all(when("X"), nested(api.Need{}, api.MaxDepth)), api.ErrMany},
		{api.Need{Kind: api.Want, A: x, Kids: wide(api.MaxNodes).Kids}, api.ErrMany},

		// Kinds that are none.
		{api.Need{}, api.ErrForm},
		{api.Need{Kind: -1}, api.ErrForm},
		{api.Need{Kind: 6}, api.ErrForm},
		{api.Need{Kind: 6, A: x}, api.ErrForm},
		{api.Need{Kind: 6, Flag: "x", Kids: all(all()).Kids}, api.ErrForm},
		// What a kind has no use for.
		{api.Need{Kind: api.Want, A: x, Kids: []api.Need{want("a")}}, api.ErrForm},
		{api.Need{Kind: api.Block, A: x, Kids: []api.Need{{}}}, api.ErrForm},
		{api.Need{Kind: api.All, A: x}, api.ErrForm},
		{api.Need{Kind: api.Some, A: api.Atom{On: true}}, api.ErrForm},
		{api.Need{Kind: api.If, Flag: "x", A: api.Atom{Slot: 1}}, api.ErrForm},
		{api.Need{Kind: api.Want, A: x, Flag: "x"}, api.ErrForm},
		{api.Need{Kind: api.Want, A: x, Not: true}, api.ErrForm},
		{api.Need{Kind: api.Block, A: x, Flag: "x"}, api.ErrForm},
		{api.Need{Kind: api.Block, A: x, Not: true}, api.ErrForm},
		{api.Need{Kind: api.All, Flag: "x"}, api.ErrForm},
		{api.Need{Kind: api.All, Not: true}, api.ErrForm},
		{api.Need{Kind: api.Some, Flag: "x"}, api.ErrForm},
		{api.Need{Kind: api.Some, Not: true}, api.ErrForm},

		// Flags and atoms.
		{when(""), api.ErrText},
		{unless(""), api.ErrText},
		{when("X"), api.ErrText},
		{when("abcdefghi"), api.ErrText},
		{api.Need{Kind: api.Want}, api.ErrText},
		{block("A"), api.ErrText},
		{outOfRange, api.ErrRange},
		{onAlone, api.ErrForm},

		// Several at once: of one node the form comes first; it comes ahead of its Kids, and they in order, each with all that it holds.
		{api.Need{Kind: api.If, A: x}, api.ErrForm},
		{api.Need{Kind: api.Want, Not: true}, api.ErrForm},
		{all(outOfRange, onAlone), api.ErrRange},
		{all(onAlone, outOfRange), api.ErrForm},
		{when("X", outOfRange), api.ErrText},
		{api.Need{Kind: api.All, Not: true, Kids: []api.Need{outOfRange}}, api.ErrForm},
		{all(some(want("a"), outOfRange), when("")), api.ErrRange},
		{all(when("", outOfRange), onAlone), api.ErrText},
		{all(all(all(want("a"), outOfRange)), api.Need{}), api.ErrRange},
	}
}

func TestCheckTakes(t *testing.T) {
	for s, n := range rightNeeds() {
		if e := Check(n); e != api.OK {
			t.Errorf("%s: %d", s, e)
		}
	}
	for kind := api.Want; kind <= api.If; kind++ {
		n := api.Need{Kind: kind, Kids: []api.Need{}}
		if kind <= api.Block {
			n.A.Name = "a"
		}
		if kind == api.If {
			n.Flag = "x"
		}
		if e := Check(n); e != api.OK {
			t.Errorf("kind %d without Kids: %d", kind, e)
		}
	}
}

func TestRefused(t *testing.T) {
	for i, c := range wrongNeeds() {
		if e := Check(c.n); e != c.want {
			t.Errorf("Check of %d: %d, want %d", i, e, c.want)
		}
		if flags, e := Flags(c.n); flags != nil || e != c.want {
			t.Errorf("Flags of %d: %q, %d, want %d", i, flags, e, c.want)
		}
		if s, e := Print(c.n); s != "" || e != c.want {
			t.Errorf("Print of %d: %q, %d, want %d", i, s, e, c.want)
		}
	}
}

// TestSame holds every need against every other one, those that Check refuses too, but for one that doesn't end.
func TestSame(t *testing.T) {
	var needs, bares []api.Need
	for _, n := range rightNeeds() {
		needs, bares = append(needs, n), append(bares, bare(n))
	}
	for _, c := range wrongNeeds() {
		if !reflect.DeepEqual(c.n, holdsItself()) {
			needs, bares = append(needs, c.n), append(bares, bare(c.n))
		}
	}
	for i, a := range needs {
		for j, b := range needs {
			if got := Same(a, b); got != reflect.DeepEqual(bares[i], bares[j]) {
				t.Errorf("%d and %d: %v", i, j, got)
			}
		}
	}
}

// alike: what Same asks, of what the library tells; it tells nil from empty lists, so they are made nil.
func alike(a, b api.Need) bool { return reflect.DeepEqual(bare(a), bare(b)) }

func bare(n api.Need) api.Need {
	var kids []api.Need
	for _, kid := range n.Kids {
		kids = append(kids, bare(kid))
	}
	n.Kids = kids
	return n
}

func TestSameOfEachField(t *testing.T) {
	base := api.Need{Kind: 7, A: api.Atom{Name: "\xff", Op: -1, Version: -2, Slot: -3, Flag: "?", On: true}, Flag: "!", Not: true, Kids: []api.Need{want("a"), {}}}
	for i, change := range []func(n *api.Need){
		func(n *api.Need) { n.Kind++ },
		func(n *api.Need) { n.A.Name = "" },
		func(n *api.Need) { n.A.Op++ },
		func(n *api.Need) { n.A.Version++ },
		func(n *api.Need) { n.A.Slot++ },
		func(n *api.Need) { n.A.Flag = "" },
		func(n *api.Need) { n.A.On = false },
		func(n *api.Need) { n.Flag += "!" },
		func(n *api.Need) { n.Not = false },
		func(n *api.Need) { n.Kids = nil },
		func(n *api.Need) { n.Kids = n.Kids[:1] },
		func(n *api.Need) { n.Kids = append(slices.Clip(n.Kids), api.Need{}) },
		func(n *api.Need) { n.Kids = []api.Need{n.Kids[1], n.Kids[0]} },
		func(n *api.Need) { n.Kids = []api.Need{want("b"), {}} },
		func(n *api.Need) { n.Kids = []api.Need{want("a"), {Kids: []api.Need{{}}}} },
	} {
		other := base
		if change(&other); Same(base, other) || Same(other, base) || Same(all(base), all(other)) {
			t.Errorf("change %d isn't seen", i)
		}
		if !Same(base, base) || !Same(other, other) {
			t.Errorf("change %d: each is the same as itself", i)
		}
	}
	if !Same(api.Need{}, api.Need{Kids: []api.Need{}}) {
		t.Error("nil and empty Kids are alike")
	}
}

func TestSameOfDeepNeeds(t *testing.T) {
	const deep = 1000000
	a, b, c := nested(want("a"), deep), nested(want("a"), deep), nested(want("b"), deep)
	if !Same(a, b) || Same(a, c) || Same(a, a.Kids[0]) {
		t.Error("deep needs are told wrong")
	}
}

func TestFlags(t *testing.T) {
	for _, c := range []struct {
		n    api.Need
		want []string
	}{
		{all(), nil},
		{want("a"), nil},
		{api.Need{Kind: api.Want, A: api.Atom{Name: "a", Flag: "x"}}, nil},
		{when("x"), []string{"x"}},
		{unless("x", when("x"), unless("x")), []string{"x"}},
		{all(when("y"), unless("x"), when("y")), []string{"x", "y"}},
		{when("b", unless("a", some(when("ab"), when("a1")))), []string{"a", "a1", "ab", "b"}},
	} {
		if got, e := Flags(c.n); !slices.Equal(got, c.want) || e != api.OK {
			t.Errorf("%+v: %q, %d, want %q", c.n, got, e, c.want)
		}
	}
}

// TestOnlyRead: neither lists that are handed in nor the room behind them are changed, and answers are no part of them.
func TestOnlyRead(t *testing.T) {
	kids := []api.Need{when("y", want("a")), unless("x"), want("b"), want("behind")}
	n := all(kids[:2]...)
	before := bare(all(kids...))
	Check(n)
	Same(n, n)
	Print(n)
	flags, _ := Flags(n)
	flags[0] = "other"
	if !reflect.DeepEqual(before, all(kids...)) {
		t.Errorf("changed: %+v", kids)
	}
	first, _ := Parse("( ( a ) ( b ) )")
	second, _ := Parse("( ( a ) ( b ) )")
	first.Kids[0].Kids[0].A.Name = "c"
	_ = append(first.Kids[0].Kids, want("d"))
	if !Same(second, all(all(want("a")), all(want("b")))) || !Same(first.Kids[1], all(want("b"))) {
		t.Errorf("lists share memory: %+v, %+v", first, second)
	}
}
