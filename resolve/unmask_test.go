package resolve

import (
	"reflect"
	"slices"
	"testing"

	"quartermaster/api"
)

// unmasks: is want what Unmask answers?
func unmasks(t *testing.T, x api.Tree, w api.Wish, want ...int) {
	t.Helper()
	if got, e := Unmask(x, w, api.MaxSteps); !slices.Equal(got, want) || e != api.OK {
		t.Errorf("%+v: %v, %d, want %v", w, got, e, want)
	}
}

// failsToUnmask: is there this error, and nothing else?
func failsToUnmask(t *testing.T, x api.Tree, w api.Wish, steps int, want api.Errno) {
	t.Helper()
	if got, e := Unmask(x, w, steps); got != nil || e != want {
		t.Errorf("Unmask of %+v in %d steps: %v, %d, want %d", w, steps, got, e, want)
	}
}

// TestUnmask: from the first one on what can be masked is, so those that are in the way are the last ones.
func TestUnmask(t *testing.T) {
	x := parsed(t, shop)
	all := []int{0, 1, 2, 3, 4, 5}
	for _, c := range []struct {
		w    api.Wish
		want []int
	}{
		// Nothing is in the way.
		{api.Wish{}, nil},
		{api.Wish{Masked: all}, nil},
		{api.Wish{Targets: targets("a")}, nil},
		{api.Wish{Targets: targets("a"), Masked: []int{0, 2, 3}}, nil},
		{api.Wish{Masked: []int{4}, Installed: set(member(4))}, nil},

		// One is.
		{api.Wish{Targets: targets("b"), Masked: []int{3}}, []int{3}},
		{api.Wish{Targets: targets("b"), Masked: all}, []int{3}},
		{api.Wish{Targets: targets("c"), Masked: all}, []int{5}},
		{api.Wish{Targets: targets("c"), Masked: []int{4}}, nil},
		{api.Wish{Targets: targets("a"), Masked: []int{0, 1, 2}}, []int{2}},
		{api.Wish{Targets: targets("a"), Masked: []int{0, 2, 3, 4, 5}}, nil},
		{api.Wish{Targets: targets("a"), Masked: []int{1, 3, 4, 5}}, []int{5}},

		// Several: one that is needed comes along; one that can't be masked has no say in those behind it.
		{api.Wish{Targets: targets("a"), Masked: all}, []int{2, 5}},
		{api.Wish{Targets: targets("a:1"), Masked: all}, []int{1}},
		{api.Wish{Targets: targets("a=1"), Masked: all}, []int{0, 3}},
		{api.Wish{Targets: targets("a=1"), Masked: []int{1, 2, 3, 4, 5}}, []int{3}},
		{api.Wish{Targets: targets("a=1", "a:2"), Masked: all}, []int{0, 2, 3}},
		{api.Wish{Targets: targets("a+y"), Masked: all}, []int{1, 2, 5}},
		{api.Wish{Targets: targets("a+y"), Masked: []int{0, 2, 4}}, []int{2}},

		// What is there, and which flags are wished, has no say.
		{api.Wish{Targets: targets("c"), Masked: all, Installed: set(member(4)), On: [][2]int{{1, 0}}}, []int{5}},
	} {
		unmasks(t, x, c.w, c.want...)
	}
	unmasks(t, api.Tree{}, api.Wish{})
	unmasks(t, parsed(t, hopeless), api.Wish{Targets: targets("a+x", "g"), Masked: []int{0, 1, 5, 6, 7}}, 0, 6)
}

// TestInVain: there is no set even with nothing masked.
func TestInVain(t *testing.T) {
	x := parsed(t, shop)
	for _, masked := range [][]int{nil, {0}, {3, 4, 5}, {0, 1, 2, 3, 4, 5}} {
		for _, texts := range [][]string{{"nowhere"}, {"b", "c"}, {"a=1", "a=2"}, {"a<2", "c"}} {
			failsToUnmask(t, x, api.Wish{Targets: targets(texts...), Masked: masked}, api.MaxSteps, api.ErrNone)
		}
	}
	failsToUnmask(t, api.Tree{}, api.Wish{Targets: targets("a")}, api.MaxSteps, api.ErrNone)
}

// TestUnmaskSteps: a try that takes more steps than there may be ends it, wherever that is.
func TestUnmaskSteps(t *testing.T) {
	// z=2 will do at once; that z=1 won't takes many steps.
	x := parsed(t, "a 1 1 x ( )\nb 1 1 x ( )\nc 1 1 x ( )\nd 1 1 x ( )\ne 1 1  ( )\nf 1 1  ( )\n"+
		"z 1 1 u,v ( || ( z<2+u z<2+v ) || ( z<2+u z<2-v ) || ( z<2-u z<2+v ) || ( z<2-u z<2-v ) )\nz 2 1  ( )\n")
	w := api.Wish{Targets: targets("z"), Masked: []int{0, 6}}
	unmasks(t, x, w)
	if got, e := Unmask(x, w, 100); len(got) > 0 || e != api.OK {
		t.Errorf("%v, %d", got, e)
	}
	w.Masked = []int{0, 2, 7}
	unmasks(t, x, w, 7)
	failsToUnmask(t, x, w, 100, api.ErrSteps)
	failsToUnmask(t, x, w, 1, api.ErrSteps)

	// Behind one that couldn't be masked again, all else is zero, too.
	w.Targets = targets("z", "a")
	unmasks(t, x, w, 0, 7)
	failsToUnmask(t, x, w, 100, api.ErrSteps)

	// With nothing masked it takes many steps; with what is masked it would take few.
	x = parsed(t, hopeless)
	w = api.Wish{Targets: targets("z"), Masked: []int{0, 1, 2, 3, 4, 5, 6, 7}}
	if _, _, e := Resolve(x, w, 100); e != api.ErrNone {
		t.Errorf("%d", e)
	}
	failsToUnmask(t, x, w, 100, api.ErrSteps)
	failsToUnmask(t, x, w, api.MaxSteps, api.ErrNone)
}

type given struct {
	x api.Tree
	w api.Wish
}

// lay: things to hand in, each list with something behind what is handed in of it.
func lay(t *testing.T) given {
	return given{
		parsed(t, shop+"d 1 1  ( )\n"),
		api.Wish{
			Targets:   targets("a=1", "c-z", "behind"),
			Installed: set(member(1, on), member(2, on, on), member(9)),
			Masked:    []int{0, 1, 3, 4, 99, 98, 97},
			On:        [][2]int{{1, 0}, {2, 1}, {0, 0}},
		},
	}
}

// handed: lay's things, up to what is behind them, with so many targets.
func (g given) handed(targets int) given {
	w := api.Wish{Targets: g.w.Targets[:targets], Installed: g.w.Installed[:2], Masked: g.w.Masked[:4], On: g.w.On[:2]}
	return given{api.Tree{Packages: g.x.Packages[:6]}, w}
}

// answers of all calls: of a wish that can be, if its masks are taken off, of its masks, and of one that can't.
type answers struct {
	l     []api.Member
	proof []api.Clause
	masks []int
}

func (g given) ask(t *testing.T) answers {
	t.Helper()
	var a answers
	var e [4]api.Errno
	can, cannot := g.handed(1), g.handed(2)
	a.masks, e[0] = Unmask(can.x, can.w, api.MaxSteps)
	_, e[1] = Unmask(cannot.x, cannot.w, api.MaxSteps)
	_, a.proof, e[2] = Resolve(cannot.x, cannot.w, api.MaxSteps)
	can.w.Masked, can.w.Targets = can.w.Masked[1:2:2], nil
	a.l, _, e[3] = Resolve(can.x, can.w, api.MaxSteps)
	if e != [4]api.Errno{api.OK, api.ErrNone, api.ErrNone, api.OK} || len(a.masks) != 2 || len(a.l) < 2 {
		t.Fatal(e, a)
	}
	return a
}

// TestOnlyRead: neither lists that are handed in nor the room behind them are changed, and the answers are the same again.
func TestOnlyRead(t *testing.T) {
	g := lay(t)
	first := g.ask(t)
	for range 20 { // maps are gone through in another order each time
		if again := g.ask(t); !reflect.DeepEqual(first, again) {
			t.Fatalf("%v, then %v", first, again)
		}
	}
	if !reflect.DeepEqual(g, lay(t)) {
		t.Errorf("changed: %+v", g)
	}
}

// TestNewMemory: lists of an answer can be written over, with the room behind them, and nothing else changes.
func TestNewMemory(t *testing.T) {
	g := lay(t)
	a, want := g.ask(t), g.ask(t)
	for i, c := range a.proof {
		if !slices.Equal(c, want.proof[i]) {
			t.Fatalf("clause %d shares its room", i)
		}
		for k := range c[:cap(c)] {
			c[:cap(c)][k] = 999
		}
	}
	for i, m := range a.l {
		if !slices.Equal(m.On, want.l[i].On) {
			t.Fatalf("member %d shares its room", i)
		}
		for k := range m.On[:cap(m.On)] {
			m.On[:cap(m.On)][k] = k >= len(m.On) || !m.On[k]
		}
	}
	clear(a.proof[:cap(a.proof)])
	clear(a.l[:cap(a.l)])
	for k := range a.masks[:cap(a.masks)] {
		a.masks[:cap(a.masks)][k] = 999
	}
	if !reflect.DeepEqual(g, lay(t)) || !reflect.DeepEqual(g.ask(t), want) {
		t.Errorf("changed: %+v", g)
	}
}
