// Package follow: what follows from literals, by clauses, as chapter 5 has it. It stands beside the layers because chapters 6 and 7 ask it of more clauses than a formula may have, and of the same ones again and again.
package follow

import (
	"slices"

	"quartermaster/api"
)

// Clauses, laid so that a literal that doesn't hold any more leads to just those that it stands in.
type Clauses struct {
	vars  int
	short []api.Clause   // of one literal at most: they have a say whatever is known
	with  [][]api.Clause // those in which a literal stands, at vars + literal
}

// New: no clauses yet, of variables from 1 to vars.
func New(vars int) *Clauses {
	return &Clauses{vars: vars, with: make([][]api.Clause, 2*vars+1)}
}

// Add: these clauses, too. That all their literals are of variables up to vars is known.
func (x *Clauses) Add(clauses ...api.Clause) {
	for _, c := range clauses {
		if isShort(c) {
			x.short = append(x.short, c)
		}
		for _, literal := range c {
			x.with[x.vars+literal] = append(x.with[x.vars+literal], c)
		}
	}
}

// isShort: are no two literals of c different?
func isShort(c api.Clause) bool {
	return !slices.ContainsFunc(c, func(literal int) bool { return literal != c[0] })
}

// From: all literals that are known, if these are, by variable; false: two of these don't agree, or it fails. That all of them are of variables up to vars is known.
func (x *Clauses) From(literals ...int) ([]int, bool) {
	known := make([]int, x.vars+1) // of each variable its literal; 0: neither one
	var found []int                // the same ones, as they came
	ask := func(clauses ...api.Clause) bool {
		for _, c := range clauses {
			first, more := canHold(c, known)
			switch {
			case more: // nothing follows
			case first == 0:
				return false
			case known[variable(first)] == 0:
				known[variable(first)] = first
				found = append(found, first)
			}
		}
		return true
	}

	ok := true
	for _, literal := range literals {
		ok = ok && ask(api.Clause{literal}) // as if it were told, so that two that don't agree fail
	}
	ok = ok && ask(x.short...)
	for next := 0; ok && next < len(found); next++ {
		ok = ask(x.with[x.vars-found[next]]...)
	}
	if !ok {
		return nil, false
	}
	return slices.DeleteFunc(known, func(literal int) bool { return literal == 0 }), true
}

// canHold: the first literal of c that can hold, if these are known (0: none), and whether another one can.
func canHold(c api.Clause, known []int) (first int, more bool) {
	for _, literal := range c {
		switch {
		case known[variable(literal)] == -literal, literal == first:
		case first != 0:
			return first, true
		default:
			first = literal
		}
	}
	return first, false
}

func variable(literal int) int { return max(literal, -literal) }
