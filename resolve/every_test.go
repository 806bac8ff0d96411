package resolve

import (
	"slices"
	"strconv"
	"strings"
	"testing"

	"quartermaster/api"
	"quartermaster/tree"
	"quartermaster/valid"
)

// The tests here hold answers against chapter 4, asked of all choices, one after the other.

// dice gives numbers that look thrown, the same ones in each run.
type dice struct{ state uint32 }

func (d *dice) below(n int) int {
	d.state = d.state*1664525 + 1013904223
	return int(d.state>>8) % n
}

func pick[E any](d *dice, l ...E) E { return l[d.below(len(l))] }

// atom: a text of an atom, most of them plain, as too few sets would be there otherwise.
func (d *dice) atom() string {
	return pick(d, "a", "b", "c") + pick(d, "", "", "", pick(d, "=1", "=2", ">=2", "<2")) + pick(d, "", "", "", pick(d, ":1", ":2")) + pick(d, "", "", "", pick(d, "+x", "-x", "+y", "-y"))
}

// need: a text of a need; its kids go no deeper than may be.
func (d *dice) need(depth int, flags []string) string {
	kind := d.below(8)
	switch {
	case depth == 1:
	case kind < 4, depth == api.MaxDepth:
		return d.atom()
	case kind < 5:
		return "!" + d.atom()
	}
	head := ""
	switch {
	case depth == 1:
	case kind == 5:
		head = "|| "
	case len(flags) > 0:
		head = pick(d, "", "!") + pick(d, flags...) + "? "
	}
	kids := ""
	for range d.below(3) {
		kids += d.need(depth+1, flags) + " "
	}
	return head + "( " + kids + ")"
}

// lines: a text of a tree of these packages; not all of them are trees.
func (d *dice) lines(packages ...string) string {
	s := ""
	for _, ahead := range packages {
		flags := pick(d, nil, nil, []string{"x"}, []string{"y"}, []string{"x", "y"})
		s += ahead + " " + pick(d, "1", "1", "2") + " " + strings.Join(flags, ",") + " " + d.need(1, flags) + "\n"
	}
	return s
}

// wish: a wish for packages of x.
func (d *dice) wish(x api.Tree) api.Wish {
	var w api.Wish
	for range 1 + d.below(2) {
		w.Targets = append(w.Targets, targets(d.atom())...)
	}
	often := 1 + d.below(5)
	for place, p := range x.Packages {
		if d.below(often) == 0 {
			w.Masked = append(w.Masked, place)
		}
		m := api.Member{Place: place}
		for flag := range p.Flags {
			m.On = append(m.On, d.below(2) == 0)
			if d.below(2) == 0 {
				w.On = append(w.On, [2]int{place, flag})
			}
		}
		if d.below(3) == 0 {
			w.Installed = append(w.Installed, m)
		}
	}
	return w
}

// told: the set that choices make, put together of what each of them says, in the order of chapter 8. The highest bit that counts is the first choice.
func told(x api.Tree, w api.Wish, bits int) (l []api.Member) {
	left := countChoices(x)
	holds := func() bool {
		left--
		return bits>>left&1 == 1
	}
	isInstalled := func(place int) bool {
		return slices.ContainsFunc(w.Installed, func(m api.Member) bool { return m.Place == place })
	}
	taken := make([]bool, len(x.Packages))
	for _, installed := range []bool{true, false} {
		for place := range x.Packages {
			if isInstalled(place) == installed {
				taken[place] = holds() != installed
			}
		}
	}
	for place, p := range x.Packages {
		m := api.Member{Place: place}
		for flag := range p.Flags {
			m.On = append(m.On, holds() != slices.Contains(w.On, [2]int{place, flag}))
		}
		if taken[place] {
			l = append(l, m)
		}
	}
	return l
}

func countChoices(x api.Tree) int {
	count := len(x.Packages)
	for _, p := range x.Packages {
		count += len(p.Flags)
	}
	return count
}

// firstValid: of all sets that may be the first one, by choices; false: there is none.
func firstValid(t *testing.T, x api.Tree, w api.Wish) ([]api.Member, bool) {
	t.Helper()
	for bits := range 1 << countChoices(x) {
		l := told(x, w, bits)
		ok, e := valid.Valid(x, w, l)
		if e != api.OK {
			t.Fatal(e)
		}
		if ok {
			return l, true
		}
	}
	return nil, false
}

// canBe: is there a set, if just these are masked?
func canBe(t *testing.T, x api.Tree, w api.Wish, masked ...int) bool {
	t.Helper()
	w.Masked = slices.Sorted(slices.Values(masked))
	_, ok := firstValid(t, x, w)
	return ok
}

// holdAgainst: is what Resolve finds the first set that may be, and if there is none does its proof refute the formula? It answers whether there is one.
func holdAgainst(t *testing.T, x api.Tree, w api.Wish) bool {
	t.Helper()
	l, ok := firstValid(t, x, w)
	if ok {
		finds(t, x, w, l)
	} else {
		refuted(t, x, w)
	}
	if t.Failed() {
		written, _ := tree.Print(x)
		t.Fatalf("%s%+v", written, w)
	}
	return ok
}

// holdMasks: is what Unmask answers what couldn't be masked again, from the first one on, and can't it be less? It answers how many there are; -1: there is no set.
func holdMasks(t *testing.T, x api.Tree, w api.Wish) int {
	t.Helper()
	if !canBe(t, x, w) {
		failsToUnmask(t, x, w, api.MaxSteps, api.ErrNone)
		return -1
	}
	var want, rest []int
	for _, place := range w.Masked {
		if canBe(t, x, w, append(rest, place)...) {
			rest = append(rest, place)
		} else {
			want = append(want, place)
		}
	}
	unmasks(t, x, w, want...)
	if !canBe(t, x, w, rest...) {
		t.Errorf("%v don't do", want)
	}
	for _, place := range want {
		if canBe(t, x, w, append(rest, place)...) {
			t.Errorf("%d of %v needn't be", place, want)
		}
	}
	if t.Failed() {
		written, _ := tree.Print(x)
		t.Fatalf("%s%+v", written, w)
	}
	return len(want)
}

// TestEveryChoice: of many trees and wishes.
func TestEveryChoice(t *testing.T) {
	d := &dice{state: 9}
	sets, none := 0, 0
	masks := map[int]int{}
	for sets+none < 2000 {
		x, _, e := tree.Parse(d.lines(pick(d, []string{"a 1", "b 2", "c 3"}, []string{"a 1", "a 2", "b 1", "c 2"}, []string{"a 1", "a 2", "b 1", "b 2", "c 1"}, []string{"a 2", "b 1", "c 1", "c 2"})...))
		if e != api.OK || countChoices(x) > 9 { // too many nodes, or too many sets
			continue
		}
		w := d.wish(x)
		if holdAgainst(t, x, w) {
			sets++
		} else {
			none++
		}
		masks[holdMasks(t, x, w)]++
	}
	if min(sets, none) < 200 || min(masks[-1], masks[0], masks[1], masks[2]) < 40 || masks[3]+masks[4] == 0 {
		t.Errorf("too few of a kind: %d, %d, %v", sets, none, masks)
	}
}

// TestLimits: the same, of trees of as many packages and choices as may be, all of one name or of three.
func TestLimits(t *testing.T) {
	d := &dice{state: 10}
	var one []string
	for k := range api.MaxPackages {
		one = append(one, "a "+strconv.Itoa(k+1))
	}
	three := []string{"a 1", "a 2", "a 3", "b 1", "b 2", "c 1", "c 2", "c 3"}
	trees, sets, inTheWay := 0, 0, 0
	for trees < 32 {
		x, _, e := tree.Parse(d.lines(pick(d, one, three)...))
		if e != api.OK || countChoices(x) < api.MaxChoices-1 {
			continue
		}
		trees++
		w := d.wish(x)
		if holdAgainst(t, x, w) {
			sets++
		}
		if holdMasks(t, x, w) > 0 {
			inTheWay++
		}
	}
	if min(sets, inTheWay) < 3 {
		t.Errorf("too few of a kind: %d, %d", sets, inTheWay)
	}
}
