package valid

import (
	"slices"
	"strconv"
	"testing"

	"quartermaster/api"
	"quartermaster/atom"
	"quartermaster/need"
	"quartermaster/tree"
)

// The tests here hold the package against another way to say it: a member is told by all the texts of atoms that it is, and needs are asked by their texts.

// dice gives numbers that look thrown, the same ones in each run.
type dice struct{ state uint32 }

func (d *dice) below(n int) int {
	d.state = d.state*1664525 + 1013904223
	return int(d.state>>8) % n
}

func pick[E any](d *dice, l ...E) E { return l[d.below(len(l))] }

func (d *dice) atom() string {
	return pick(d, "a", "b", "c") + pick(d, "", "", "=1", "=2", ">=2", "<2", "<3") + pick(d, "", "", ":1", ":2") + pick(d, "", "", "+x", "-x", "+y", "-y")
}

func (d *dice) need(depth int, flags []string) string {
	kind := d.below(8)
	switch {
	case depth == 1:
	case kind < 3, depth == api.MaxDepth:
		return d.atom()
	case kind < 5:
		return "!" + d.atom()
	}
	head := ""
	switch {
	case depth == 1:
	case kind == 5:
		head = "|| "
	case len(flags) > 0:
		head = pick(d, "", "!") + pick(d, flags...) + "? "
	}
	kids := ""
	for range d.below(4) {
		kids += d.need(depth+1, flags) + " "
	}
	return head + "( " + kids + ")"
}

// lines: a text of a tree of up to four packages; not all of them are trees.
func (d *dice) lines() string {
	s := ""
	for _, ahead := range pick(d, []string{"a 1", "a 2", "b 1"}, []string{"a 1", "b 2", "c 3"}, []string{"a 1", "a 2", "a 3", "b 2"}, []string{"b 1", "b 2"}) {
		flags := pick(d, nil, []string{"x"}, []string{"y"}, []string{"x", "y"})
		written := ""
		for k, flag := range flags {
			written += []string{"", ","}[k] + flag
		}
		s += ahead + " " + pick(d, "1", "1", "2") + " " + written + " " + d.need(1, flags) + "\n"
	}
	return s
}

// everySet: all sets of packages of x.
func everySet(x api.Tree) [][]api.Member {
	sets := [][]api.Member{nil}
	for place, p := range x.Packages {
		for _, l := range slices.Clone(sets) {
			for bits := range 1 << len(p.Flags) {
				m := api.Member{Place: place}
				for k := range p.Flags {
					m.On = append(m.On, bits>>k&1 == 1)
				}
				sets = append(sets, append(slices.Clone(l), m))
			}
		}
	}
	return sets
}

// texts: all texts of atoms that m of x is, with versions up to 3.
func texts(x api.Tree, m api.Member) map[string]int {
	p := x.Packages[m.Place]
	found := map[string]int{}
	flags := []string{""}
	for k, flag := range p.Flags {
		flags = append(flags, map[bool]string{true: "+", false: "-"}[m.On[k]]+flag)
	}
	for _, flag := range flags {
		for _, slot := range []string{"", ":" + strconv.Itoa(p.Slot)} {
			found[p.Name+slot+flag] = 1
			found[p.Name+"="+strconv.Itoa(p.Version)+slot+flag] = 1
			for v := 1; v <= p.Version; v++ {
				found[p.Name+">="+strconv.Itoa(v)+slot+flag] = 1
			}
			for v := p.Version + 1; v <= 3; v++ {
				found[p.Name+"<"+strconv.Itoa(v)+slot+flag] = 1
			}
		}
	}
	return found
}

// facts: of each member, and, behind them, of all together, how many are what a text of an atom asks; and each one's own flags that are on.
type facts struct {
	of   []map[string]int
	all  map[string]int
	flag []map[string]int
}

func told(x api.Tree, l []api.Member) facts {
	f := facts{all: map[string]int{}}
	for _, m := range l {
		is, flags := texts(x, m), map[string]int{}
		for s := range is {
			f.all[s]++
		}
		for k, flag := range x.Packages[m.Place].Flags {
			if m.On[k] {
				flags[flag] = 1
			}
		}
		f.of, f.flag = append(f.of, is), append(f.flag, flags)
	}
	return f
}

// fails: does n, which member k needs, fail? It counts which Kids do.
func (f facts) fails(n api.Need, k int) bool {
	failed := 0
	for _, kid := range n.Kids {
		if f.fails(kid, k) {
			failed++
		}
	}
	s, _ := atom.Print(n.A)
	switch n.Kind {
	case api.Want:
		return f.all[s] == 0
	case api.Block:
		return f.all[s] > f.of[k][s]
	case api.Some:
		return failed == len(n.Kids)
	case api.If:
		asked := f.flag[k][n.Flag] == 1
		return failed > 0 && (asked && !n.Not || !asked && n.Not)
	}
	return failed > 0
}

// mayBe: Valid, of a right wish and a right set.
func (f facts) mayBe(x api.Tree, w api.Wish, l []api.Member) bool {
	right := true
	for _, a := range w.Targets {
		s, _ := atom.Print(a)
		right = right && f.all[s] > 0
	}
	taken := map[string]int{}
	for k, m := range l {
		p := x.Packages[m.Place]
		taken[p.Name+":"+strconv.Itoa(p.Slot)]++
		right = right && !f.fails(p.Need, k)
		for _, masked := range w.Masked {
			right = right && masked != m.Place
		}
	}
	for _, n := range taken {
		right = right && n == 1
	}
	return right
}

// wish: a wish for packages of x.
func (d *dice) wish(t *testing.T, x api.Tree) api.Wish {
	var w api.Wish
	for range d.below(3) {
		a, e := atom.Parse(d.atom())
		if e != api.OK {
			t.Fatal(e)
		}
		w.Targets = append(w.Targets, a)
	}
	for place := range x.Packages {
		if d.below(6) == 0 {
			w.Masked = append(w.Masked, place)
		}
	}
	w.Installed = pick(d, everySet(x)...)
	return w
}

// TestEverySet: of many trees, all sets, each of their members, some wishes.
func TestEverySet(t *testing.T) {
	d := &dice{state: 4}
	trees, hold, fail, may, mayNot := 0, 0, 0, 0, 0
	for trees < 400 {
		s := d.lines()
		x, _, e := tree.Parse(s)
		if e != api.OK { // too many nodes
			continue
		}
		trees++
		wishes := []api.Wish{{}, d.wish(t, x), d.wish(t, x)}
		for _, l := range everySet(x) {
			f := told(x, l)
			for k, m := range l {
				n := x.Packages[m.Place].Need
				got, e := Holds(x, l, k)
				if got == f.fails(n, k) || e != api.OK {
					written, _ := need.Print(n)
					t.Fatalf("%s%v: %s of %d: %v, %d", s, l, written, k, got, e)
				}
				count(got, &hold, &fail)
			}
			for _, w := range wishes {
				got, e := Valid(x, w, l)
				if got != f.mayBe(x, w, l) || e != api.OK {
					t.Fatalf("%s%v, %v: %v, %d", s, w, l, got, e)
				}
				count(got, &may, &mayNot)
			}
		}
	}
	if min(hold, fail, may, mayNot) < 1000 {
		t.Errorf("too few of a kind: %d, %d, %d, %d", hold, fail, may, mayNot)
	}
}

func count(is bool, yes, no *int) {
	if is {
		*yes++
	} else {
		*no++
	}
}
