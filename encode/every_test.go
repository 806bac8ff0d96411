package encode

import (
	"slices"
	"strconv"
	"strings"
	"testing"

	"quartermaster/api"
	"quartermaster/atom"
	"quartermaster/tree"
	"quartermaster/valid"
)

// The tests here hold formulas against chapter 4, of all choices, or of many.

// dice gives numbers that look thrown, the same ones in each run.
type dice struct{ state uint32 }

func (d *dice) below(n int) int {
	d.state = d.state*1664525 + 1013904223
	return int(d.state>>8) % n
}

func pick[E any](d *dice, l ...E) E { return l[d.below(len(l))] }

func (d *dice) atom() string {
	return pick(d, "a", "b", "c") + pick(d, "", "", "=1", "=2", ">=2", "<2", "<3") + pick(d, "", "", ":1", ":2") + pick(d, "", "", "+x", "-x", "+y", "-y")
}

func (d *dice) need(depth int, flags []string) string {
	kind := d.below(8)
	switch {
	case depth == 1:
	case kind < 3, depth == api.MaxDepth:
		return d.atom()
	case kind < 5:
		return "!" + d.atom()
	}
	head := ""
	switch {
	case depth == 1:
	case kind == 5:
		head = "|| "
	case len(flags) > 0:
		head = pick(d, "", "!") + pick(d, flags...) + "? "
	}
	kids := ""
	for range d.below(4) {
		kids += d.need(depth+1, flags) + " "
	}
	return head + "( " + kids + ")"
}

// lines: a text of a tree of up to four packages; not all of them are trees.
func (d *dice) lines() string {
	s := ""
	for _, ahead := range pick(d, []string{"a 1", "a 2", "b 1"}, []string{"a 1", "b 2", "c 3"}, []string{"a 1", "a 2", "a 3", "b 2"}, []string{"b 1", "b 2"}) {
		flags := pick(d, nil, []string{"x"}, []string{"y"}, []string{"x", "y"})
		s += ahead + " " + pick(d, "1", "1", "2") + " " + strings.Join(flags, ",") + " " + d.need(1, flags) + "\n"
	}
	return s
}

// wish: a wish for packages of x.
func (d *dice) wish(t *testing.T, x api.Tree) api.Wish {
	var w api.Wish
	for range d.below(3) {
		a, e := atom.Parse(d.atom())
		if e != api.OK {
			t.Fatal(e)
		}
		w.Targets = append(w.Targets, a)
	}
	for place, p := range x.Packages {
		if d.below(6) == 0 {
			w.Masked = append(w.Masked, place)
		}
		m := api.Member{Place: place}
		for flag := range p.Flags {
			m.On = append(m.On, d.below(2) == 0)
			if d.below(2) == 0 {
				w.On = append(w.On, [2]int{place, flag})
			}
		}
		if d.below(3) == 0 {
			w.Installed = append(w.Installed, m)
		}
	}
	return w
}

// told: the set that choices make, another way to say it than Set: the choices are gone through in the chapter's order, and a set is put together of what each of them says. Bit k of bits: choice k holds.
func told(x api.Tree, w api.Wish, bits int) (l []api.Member, count int) {
	holds := func() bool {
		count++
		return bits>>(count-1)&1 == 1
	}
	isInstalled := func(place int) bool {
		return slices.ContainsFunc(w.Installed, func(m api.Member) bool { return m.Place == place })
	}
	var taken []int
	for _, installed := range []bool{true, false} {
		for place := range x.Packages {
			if isInstalled(place) == installed && holds() != installed {
				taken = append(taken, place)
			}
		}
	}
	slices.Sort(taken)
	on := map[int][]bool{}
	for place, p := range x.Packages {
		for flag := range p.Flags {
			on[place] = append(on[place], holds() != slices.Contains(w.On, [2]int{place, flag}))
		}
	}
	for _, place := range taken {
		l = append(l, api.Member{Place: place, On: on[place]})
	}
	return l, count
}

// asked: all literals of choices, by bits.
func asked(bits, count int) []int {
	var literals []int
	for k := range count {
		literals = append(literals, []int{-(k + 1), k + 1}[bits>>k&1])
	}
	return literals
}

// holdAgainst: do f, Set and Literals say of these choices what chapter 4 does? It answers whether the set may be.
func holdAgainst(t *testing.T, x api.Tree, w api.Wish, f api.Formula, bits int) bool {
	t.Helper()
	l, count := told(x, w, bits)
	want, e := valid.Valid(x, w, l)
	if e != api.OK {
		t.Fatal(e)
	}
	literals := asked(bits, count)
	if got := mayBe(t, f, literals); got != want {
		written, _ := tree.Print(x)
		t.Fatalf("%s%+v, of %v: %v, %v", written, w, l, literals, got)
	}
	if got, e := Set(x, w, modelOf(literals)); !tree.SameSet(got, l) || e != api.OK {
		t.Fatalf("Set of %v: %v, %d, want %v", literals, got, e, l)
	}
	settled, e := Literals(x, w, l)
	if e != api.OK || !isSettled(x, w, l, literals, settled) {
		t.Fatalf("Literals of %v: %v, %d, of %v", l, settled, e, literals)
	}
	return want
}

// isSettled: is settled what literals are, but that flags of packages that l doesn't take are as wished?
func isSettled(x api.Tree, w api.Wish, l []api.Member, literals, settled []int) bool {
	want := slices.Clone(literals)
	k := len(x.Packages)
	for place, p := range x.Packages {
		isTaken := slices.ContainsFunc(l, func(m api.Member) bool { return m.Place == place })
		for range p.Flags {
			if !isTaken {
				want[k] = -(k + 1)
			}
			k++
		}
	}
	return k == len(want) && slices.Equal(settled, want)
}

// TestEveryChoice: of many trees, some wishes, all choices.
func TestEveryChoice(t *testing.T) {
	d := &dice{state: 8}
	trees, may, mayNot := 0, 0, 0
	for trees < 400 {
		x, _, e := tree.Parse(d.lines())
		if e != api.OK { // too many nodes
			continue
		}
		trees++
		for _, w := range []api.Wish{{}, d.wish(t, x)} {
			f := encoded(t, x, w)
			_, count := told(x, w, 0)
			for bits := range 1 << count {
				if holdAgainst(t, x, w, f, bits) {
					may++
				} else {
					mayNot++
				}
			}
		}
	}
	if min(may, mayNot) < 5000 {
		t.Errorf("too few of a kind: %d, %d", may, mayNot)
	}
}

// TestLimits: trees of as many packages, flags and nodes as may be, so that every kind of need is told as often as it can be; all formulas may be, and some of their choices are held against chapter 4.
func TestLimits(t *testing.T) {
	var eight, one, flagged []string
	for k := range 8 {
		eight = append(eight, "a "+strconv.Itoa(k+1)+" "+strconv.Itoa(k+1)+" "+[]string{"x", ""}[k/6])
		one = append(one, "a "+strconv.Itoa(k+1)+" 1 "+[]string{"x", ""}[k/6])
	}
	for k := range 5 {
		flagged = append(flagged, "a "+strconv.Itoa(k+1)+" "+strconv.Itoa(k+1)+" "+[]string{"x,y", "x"}[k/4])
	}
	needs := []string{
		"( " + strings.Repeat("a ", 19) + ")",
		"( " + strings.Repeat("!a ", 19) + ")",
		"( " + strings.Repeat("a-x a+x !a<9 ", 6) + ")",
		"( " + strings.Repeat("a+x ", 6) + strings.Repeat("!a-x ", 6) + strings.Repeat("a=8 ", 7) + ")",
		"( || ( " + strings.Repeat("!a ", 9) + strings.Repeat("a=8 ", 9) + ") )",
		"( " + strings.Repeat("|| ( !a<5+x a=8 ) ", 6) + ")",
		"( " + strings.Repeat("( ) ", 19) + ")",
	}
	own := []string{
		"( " + strings.Repeat("x? ( ) ", 19) + ")",
		"( " + strings.Repeat("x? ( || ( a=8 a-x ) ) ", 4) + "!x? ( a ) )",
		"( " + strings.Repeat("!x? ( x? ( a ) ) ", 6) + ")",
		"( " + strings.Repeat("x? ( a ) ", 9) + ")",
	}
	targets := slices.Repeat(named("a"), api.MaxTargets)
	for _, packages := range [][]string{eight, one, flagged} {
		for _, need := range slices.Concat(needs, own) {
			lines := ""
			for _, p := range packages {
				if strings.HasSuffix(p, " ") && slices.Contains(own, need) {
					lines += p + " " + needs[0] + "\n"
				} else {
					lines += p + " " + need + "\n"
				}
			}
			x := parsed(t, lines)
			for _, w := range []api.Wish{{}, {Targets: targets, Installed: set(member(1, make([]bool, len(x.Packages[1].Flags))...)), On: [][2]int{{0, 0}, {2, 0}}}} {
				f := encoded(t, x, w)
				for bits := 0; bits < 1<<api.MaxChoices; bits += 97 {
					holdAgainst(t, x, w, f, bits)
				}
			}
		}
	}
}
