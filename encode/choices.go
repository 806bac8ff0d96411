package encode

import (
	"quartermaster/api"
	"quartermaster/valid"
)

// choices: what the first variables of a formula say. Each is false as long as things are as wished, so that the least model is the best set.
type choices struct {
	count int
	taken []int          // of each package, by place: the literal that it is taken
	on    map[[2]int]int // of a package's place and a flag's: the literal that it is on
}

// choose: the choices of t and w, which are known to be right.
func choose(t api.Tree, w api.Wish) choices {
	c := choices{taken: make([]int, len(t.Packages)), on: map[[2]int]int{}}
	next := func() int {
		c.count++
		return c.count
	}
	for _, m := range w.Installed {
		c.taken[m.Place] = -next()
	}
	for place := range t.Packages {
		if c.taken[place] == 0 {
			c.taken[place] = next()
		}
	}
	for place, p := range t.Packages {
		for flag := range p.Flags {
			c.on[[2]int{place, flag}] = next()
		}
	}
	for _, pair := range w.On {
		c.on[pair] = -c.on[pair]
	}
	return c
}

// Set: the members that are taken, with their flags, if variable k of what Encode says is what model says at k - 1.
func Set(t api.Tree, w api.Wish, model []bool) ([]api.Member, api.Errno) {
	if e := valid.CheckWish(t, w); e != api.OK {
		return nil, e
	}
	c := choose(t, w)
	if len(model) < c.count || len(model) > api.MaxVars {
		return nil, api.ErrForm
	}
	holds := func(literal int) bool { return model[variable(literal)-1] == (literal > 0) }
	var l []api.Member
	for place, p := range t.Packages {
		if !holds(c.taken[place]) {
			continue
		}
		m := api.Member{Place: place}
		for flag := range p.Flags {
			m.On = append(m.On, holds(c.on[[2]int{place, flag}]))
		}
		l = append(l, m)
	}
	return l, api.OK
}

// Literals: of each choice the literal that l makes hold. Whether l is Valid has no say in it.
func Literals(t api.Tree, w api.Wish, l []api.Member) ([]int, api.Errno) {
	if _, e := valid.Valid(t, w, l); e != api.OK {
		return nil, e
	}
	c := choose(t, w)
	literals := make([]int, c.count)
	settle := func(literal int) { literals[variable(literal)-1] = literal }
	for k := range c.count { // flags that no member has a say in stay so: as wished
		settle(-(k + 1))
	}
	for _, literal := range c.taken {
		settle(-literal)
	}
	for _, m := range l {
		settle(c.taken[m.Place])
		for flag, on := range m.On {
			settle(signed(c.on[[2]int{m.Place, flag}], on))
		}
	}
	return literals, api.OK
}

// signed: literal, or, if it doesn't hold, its other sign.
func signed(literal int, holds bool) int {
	if holds {
		return literal
	}
	return -literal
}

func variable(literal int) int { return max(literal, -literal) }
