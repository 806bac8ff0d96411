// Package asked: is a member of a set what an atom asks? See doc/04-valid.md; chapters 4 and 10 lean on it.
package asked

import (
	"slices"

	"quartermaster/api"
	"quartermaster/atom"
)

// Is: is m, whose package is p, what a asks? It takes members and packages that the layers have checked.
func Is(p api.Package, m api.Member, a api.Atom) bool {
	if p.Name != a.Name || !atom.Fits(a, p.Version, p.Slot) {
		return false
	}
	if a.Flag == "" {
		return true
	}
	// A flag that p doesn't have isn't off on it: it can't be asked for either way.
	flag := slices.Index(p.Flags, a.Flag)
	return flag >= 0 && m.On[flag] == a.On
}
