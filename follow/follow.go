// Package follow: what follows from literals, by clauses, as chapter 5 has it. It stands beside the layers because chapters 6 and 7 ask it of more clauses than a formula may have, and of the same ones again and again.
package follow

import (
	"slices"

	"quartermaster/api"
)

// Clauses, laid so that few of them are asked when a literal turns out not to hold: as long as two literals of a clause can hold nothing follows from it, so two that can are watched, and the clause is asked when one of them can't any more.
type Clauses struct {
	vars    int
	failed  bool         // no literals are needed to fail
	known   []int        // of each variable its literal, if it follows from none; 0: neither one
	clauses []api.Clause // own copies, as short as may be; the first two literals are watched
	watched [][]int      // of a literal, at vars + literal, the places of clauses where it is
}

// New: no clauses yet, of variables from 1 to vars.
func New(vars int) *Clauses {
	return &Clauses{vars: vars, known: make([]int, vars+1), watched: make([][]int, 2*vars+1)}
}

// Add: these clauses, too. That all their literals are of variables up to vars is known.
func (x *Clauses) Add(clauses ...api.Clause) {
	for _, c := range clauses {
		left, holds := canHold(c, x.known)
		switch {
		case holds: // nothing new ever follows from it
		case len(left) == 0:
			x.failed = true
		case len(left) == 1:
			x.failed = x.failed || !x.settle(x.known, left[0])
		default:
			x.lay(left)
		}
	}
}

// canHold: the literals of c that can hold, if these are known, each once; true: one of them does.
func canHold(c api.Clause, known []int) (left api.Clause, holds bool) {
	for _, literal := range c {
		switch {
		case known[variable(literal)] == literal:
			return nil, true
		case known[variable(literal)] == 0 && !slices.Contains(left, literal):
			left = append(left, literal)
		}
	}
	return left, false
}

func (x *Clauses) lay(c api.Clause) {
	x.clauses = append(x.clauses, c)
	x.watch(c[0], len(x.clauses)-1)
	x.watch(c[1], len(x.clauses)-1)
}

func (x *Clauses) watch(literal, place int) {
	x.watched[x.vars+literal] = append(x.watched[x.vars+literal], place)
}

// From: all literals that are known, if these are, by variable; false: two of these don't agree, or it fails. That all of them are of variables up to vars is known.
func (x *Clauses) From(literals ...int) ([]int, bool) {
	known := slices.Clone(x.known)
	if x.failed || !x.settle(known, literals...) {
		return nil, false
	}
	return slices.DeleteFunc(known, func(literal int) bool { return literal == 0 }), true
}

// settle: these literals are known, too, and all that follows; false: two don't agree, or it fails.
func (x *Clauses) settle(known []int, literals ...int) bool {
	var found []int
	take := func(literal int) bool {
		v := variable(literal)
		if known[v] == 0 {
			known[v] = literal
			found = append(found, literal)
		}
		return known[v] == literal
	}
	for _, literal := range literals {
		if !take(literal) {
			return false
		}
	}
	for next := 0; next < len(found); next++ {
		if !x.ask(-found[next], known, take) {
			return false
		}
	}
	return true
}

// ask: each clause where this literal, which doesn't hold any more, is watched: it watches another one, or the only one that is left is taken.
func (x *Clauses) ask(literal int, known []int, take func(int) bool) bool {
	places := x.watched[x.vars+literal]
	kept, ok := places[:0], true
	for _, place := range places {
		if ok && x.move(place, literal, known) {
			continue
		}
		kept = append(kept, place)
		ok = ok && take(x.clauses[place][0])
	}
	x.watched[x.vars+literal] = kept
	return ok
}

// move: the clause watches another literal than this one; false: there is none, or none is needed, and this one is behind the one that is left.
func (x *Clauses) move(place, literal int, known []int) bool {
	c := x.clauses[place]
	if c[0] == literal {
		c[0], c[1] = c[1], c[0]
	}
	if known[variable(c[0])] == c[0] {
		return false
	}
	for k := 2; k < len(c); k++ {
		if known[variable(c[k])] != -c[k] {
			c[1], c[k] = c[k], c[1]
			x.watch(c[1], place)
			return true
		}
	}
	return false
}

func variable(literal int) int { return max(literal, -literal) }
