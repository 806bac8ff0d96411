package order

import (
	"slices"
	"strings"
	"testing"

	"quartermaster/api"
	"quartermaster/atom"
	"quartermaster/need"
	"quartermaster/tree"
	"quartermaster/valid"
)

// The tests here hold answers against other ways to say them: wants are read off the words of a need, a member is what an atom asks if that, as a target, is Valid, and plans are judged act by act.

// dice gives numbers that look thrown, the same ones in each run.
type dice struct{ state uint32 }

func (d *dice) below(n int) int {
	d.state = d.state*1664525 + 1013904223
	return int(d.state>>8) % n
}

func pick[E any](d *dice, l ...E) E { return l[d.below(len(l))] }

// atom: a text of an atom, most of them plain, so that there are ways from one member to others.
func (d *dice) atom() string {
	return pick(d, "a", "b", "c", "d", "e", "f") + pick(d, "", "", "", "", pick(d, "=1", "=2", ">=2", "<2")) + pick(d, "", "", "", "", pick(d, ":1", ":2")) + pick(d, "", "", "", "", pick(d, "+x", "-x", "+y", "-y"))
}

// need: a text of a need; its kids go no deeper than may be.
func (d *dice) need(depth int, flags []string) string {
	kind := d.below(9)
	switch {
	case depth == 1:
	case kind < 4, depth == api.MaxDepth:
		return d.atom()
	case kind < 5:
		return "!" + d.atom()
	}
	head := ""
	switch {
	case depth == 1:
	case kind == 5:
		head = "|| "
	case len(flags) > 0:
		head = pick(d, "", "!") + pick(d, flags...) + "? "
	}
	kids := ""
	for range d.below(4) {
		kids += d.need(depth+1, flags) + " "
	}
	return head + "( " + kids + ")"
}

// lines: a text of a tree of these packages; not all of them are trees.
func (d *dice) lines(packages ...string) string {
	s := ""
	for _, ahead := range packages {
		flags := pick(d, nil, nil, []string{"x"}, []string{"y"}, []string{"x", "y"})
		s += ahead + " " + pick(d, "1", "1", "2") + " " + strings.Join(flags, ",") + " " + d.need(1, flags) + "\n"
	}
	return s
}

// some: a set of packages of x, each left out one time in so many.
func (d *dice) some(x api.Tree, often int) (l []api.Member) {
	for place, p := range x.Packages {
		m := api.Member{Place: place}
		for range p.Flags {
			m.On = append(m.On, d.below(2) == 0)
		}
		if d.below(often) > 0 {
			l = append(l, m)
		}
	}
	return l
}

// mix: a set of which some members are those of l, and others are as they come.
func (d *dice) mix(x api.Tree, l []api.Member) []api.Member {
	mixed := d.some(x, 2)
	for _, m := range l {
		k, found := slices.BinarySearchFunc(mixed, m.Place, func(other api.Member, place int) int { return other.Place - place })
		switch {
		case d.below(2) == 0:
		case found:
			mixed[k] = m
		default:
			mixed = slices.Insert(mixed, k, m)
		}
	}
	return mixed
}

// wantedWords: the atoms that m's package wants, read off the words of its need. What is left out begins behind the word of an If, and ends with its bracket.
func wantedWords(t *testing.T, p api.Package, m api.Member) (atoms []api.Atom) {
	t.Helper()
	written, e := need.Print(p.Need)
	if e != api.OK {
		t.Fatal(e)
	}
	open, leftOut := 0, 0 // how many brackets are open; the one that ends what is left out
	for _, word := range strings.Fields(written) {
		flag, isIf := strings.CutSuffix(word, "?")
		switch {
		case isIf:
			flag, not := strings.CutPrefix(flag, "!")
			if leftOut == 0 && m.On[slices.Index(p.Flags, flag)] == not {
				leftOut = open + 1
			}
		case word == "(":
			open++
		case word == ")":
			if open == leftOut {
				leftOut = 0
			}
			open--
		case leftOut == 0 && word != "||" && word[0] != '!':
			a, e := atom.Parse(word)
			if e != api.OK {
				t.Fatal(word, e)
			}
			atoms = append(atoms, a)
		}
	}
	return atoms
}

// isTarget: is m, alone, in a tree where nothing needs anything, what a asks?
func isTarget(t *testing.T, x api.Tree, m api.Member, a api.Atom) bool {
	t.Helper()
	x.Packages = slices.Clone(x.Packages)
	for k := range x.Packages {
		x.Packages[k].Need = api.Need{Kind: api.All}
	}
	ok, e := valid.Valid(x, api.Wish{Targets: []api.Atom{a}}, set(m))
	if e != api.OK {
		t.Fatal(e)
	}
	return ok
}

// wantLeans: what Leans must answer.
func wantLeans(t *testing.T, x api.Tree, l []api.Member) [][]int {
	t.Helper()
	leans := make([][]int, len(l))
	for k, m := range l {
		for _, a := range wantedWords(t, x.Packages[m.Place], m) {
			for i, other := range l {
				if isTarget(t, x, other, a) {
					leans[k] = append(leans[k], i)
				}
			}
		}
		slices.Sort(leans[k])
		leans[k] = slices.Compact(leans[k])
	}
	return leans
}

type pair struct{ from, to int }

// ways: from which member to which one comes, over those that count alone: pairs are joined until no new one comes of it.
func ways(leans [][]int, over func(k int) bool) map[pair]int {
	found := map[pair]int{}
	for k, places := range leans {
		for _, i := range places {
			found[pair{k, i}] = 1
		}
	}
	for before := -1; before < len(found); {
		before = len(found)
		joined := []pair{}
		for p := range found {
			for q := range found {
				if p.to == q.from && over(p.to) {
					joined = append(joined, pair{p.from, q.to})
				}
			}
		}
		for _, p := range joined {
			found[p] = 1
		}
	}
	return found
}

// judge holds the acts of a plan against chapter 10.
type judge struct {
	x        api.Tree
	there, l []api.Member
	comes    map[pair]int
}

func (j judge) isNew(k int) bool {
	for _, m := range j.there {
		if tree.SameSet(set(m), set(j.l[k])) {
			return false
		}
	}
	return true
}

func (j judge) sameSlot(a, b api.Member) bool {
	p, q := j.x.Packages[a.Place], j.x.Packages[b.Place]
	return p.Name == q.Name && p.Slot == q.Slot
}

// together: does one come from a to b, and back?
func (j judge) together(a, b int) bool { return j.comes[pair{a, b}] == 1 && j.comes[pair{b, a}] == 1 }

// outs: how many acts take something out, all of them first? -1: they aren't those that must.
func (j judge) outs(acts []api.Act) int {
	count := 0
	for _, m := range j.there {
		if slices.ContainsFunc(j.l, func(other api.Member) bool { return j.sameSlot(m, other) }) {
			continue
		}
		if count == len(acts) || !sameAct(acts[count], api.Act{Out: true, M: m}) {
			return -1
		}
		count++
	}
	return count
}

// line: the places in l of what the acts put in; false: one of them is no member, or takes something out.
func (j judge) line(acts []api.Act) (line []int, ok bool) {
	for _, act := range acts {
		k := slices.IndexFunc(j.l, func(m api.Member) bool { return tree.SameSet(set(m), set(act.M)) })
		if k < 0 || act.Out {
			return nil, false
		}
		line = append(line, k)
	}
	return line, true
}

// mayBeNext: is k new and not done yet, and is all done that it must wait for?
func (j judge) mayBeNext(k int, done []int) bool {
	for i := range j.l {
		if j.isNew(i) && !slices.Contains(done, i) && j.comes[pair{k, i}] == 1 && j.comes[pair{i, k}] == 0 {
			return false
		}
	}
	return j.isNew(k) && !slices.Contains(done, k)
}

// inLine: is each one the first that may be, and may none be behind the last?
func (j judge) inLine(line []int) bool {
	first := func(done []int) int {
		for k := range j.l {
			if j.mayBeNext(k, done) {
				return k
			}
		}
		return -1
	}
	for n, k := range line {
		if first(line[:n]) != k {
			return false
		}
	}
	return first(line) == -1
}

// numbered: has each two the same number, if they come to each other, and are they 1, 2 and so on, as they come? It answers the highest one; -1: they aren't.
func (j judge) numbered(line []int, acts []api.Act) int {
	highest := 0
	for n, act := range acts {
		alone := true
		for other := range acts {
			if other == n {
				continue
			}
			together := j.together(line[n], line[other])
			alone = alone && !together
			if (act.Cycle > 0 && act.Cycle == acts[other].Cycle) != together {
				return -1
			}
		}
		if alone != (act.Cycle == 0) || act.Cycle < 0 || act.Cycle > highest+1 {
			return -1
		}
		highest = max(highest, act.Cycle)
	}
	return highest
}

// makes: do what is there and the acts make l? It is asked of sets alone that have no two of one name and slot.
func (j judge) makes(acts []api.Act) bool {
	now := slices.Clone(j.there)
	for _, act := range acts {
		before := len(now)
		if act.Out {
			now = slices.DeleteFunc(now, func(m api.Member) bool { return tree.SameSet(set(m), set(act.M)) })
			if len(now) != before-1 {
				return false
			}
			continue
		}
		now = slices.DeleteFunc(now, func(m api.Member) bool { return j.sameSlot(m, act.M) })
		now = append(now, act.M)
	}
	slices.SortFunc(now, func(a, b api.Member) int { return a.Place - b.Place })
	return tree.SameSet(now, j.l)
}

// hasOwnSlots: have no two of l one name and slot?
func (j judge) hasOwnSlots(l []api.Member) bool {
	for k, m := range l {
		if slices.ContainsFunc(l[:k], func(other api.Member) bool { return j.sameSlot(m, other) }) {
			return false
		}
	}
	return true
}

// counts: how many plans were of a kind.
type counts struct{ outs, made, waits, cycles, twoCycles, overOld int }

func count(is bool, n *int) {
	if is {
		*n++
	}
}

// wrong: what isn't right with Leans and Plan of these? "": all is.
func wrong(t *testing.T, x api.Tree, there, l []api.Member, c *counts) string {
	t.Helper()
	leans, e := Leans(x, l)
	if e != api.OK || !slices.EqualFunc(leans, wantLeans(t, x, l), slices.Equal) {
		return "leans"
	}
	acts, e := Plan(x, there, l)
	j := judge{x, there, l, ways(leans, func(int) bool { return true })}
	outs := j.outs(acts)
	if e != api.OK || outs < 0 {
		return "what is taken out"
	}
	ins := acts[outs:]
	line, ok := j.line(ins)
	if !ok || !j.inLine(line) {
		return "the order"
	}
	highest := j.numbered(line, ins)
	if highest < 0 {
		return "cycles"
	}
	ownSlots := j.hasOwnSlots(there) && j.hasOwnSlots(l)
	if ownSlots && !j.makes(acts) {
		return "what the acts make"
	}
	overNew := judge{x, there, l, ways(leans, j.isNew)}
	count(outs > 0, &c.outs)
	count(ownSlots, &c.made)
	count(!slices.IsSorted(line), &c.waits)
	count(highest > 0, &c.cycles)
	count(highest > 1, &c.twoCycles)
	count(!overNew.inLine(line), &c.overOld)
	return ""
}

// TestEveryPlan: of many trees and sets.
func TestEveryPlan(t *testing.T) {
	d := &dice{state: 10}
	var c counts
	for trees := 0; trees < 4000; {
		s := d.lines(pick(d, []string{"a 1", "b 2", "c 3", "d 1", "e 1"}, []string{"a 1", "a 2", "b 1", "c 2"}, []string{"a 1", "b 1", "b 2", "c 1", "c 2", "d 1", "e 2", "f 1"}, []string{"a 1", "b 1", "c 1", "d 1", "e 1", "f 1"})...)
		x, _, e := tree.Parse(s)
		if e != api.OK { // too many nodes, or flags
			continue
		}
		trees++
		l := d.some(x, pick(d, 2, 4, 100))
		for _, there := range [][]api.Member{nil, l, d.mix(x, l), d.mix(x, l)} {
			if what := wrong(t, x, there, l, &c); what != "" {
				leans, _ := Leans(x, l)
				acts, e := Plan(x, there, l)
				t.Fatalf("%s: %s%v of %v: %v, %v, %d", what, s, l, there, leans, acts, e)
			}
		}
	}
	if min(c.outs, c.made, c.waits, c.cycles) < 500 || c.overOld < 100 || c.twoCycles < 10 {
		t.Errorf("too few of a kind: %+v", c)
	}
}
