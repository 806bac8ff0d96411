// Package atom: names, and what is asked of them: see doc/01-atom.md.
package atom

import "quartermaster/api"

// signs stand ahead of a version, by Op. None begins with another one, so the first that fits is the one that was written.
var signs = [4]string{api.Any: "", api.Just: "=", api.Least: ">=", api.Below: "<"}

// Name: is s a name?
func Name(s string) bool {
	if len(s) < 1 || len(s) > api.MaxName || !letter(s[0]) {
		return false
	}
	for i := range len(s) {
		if !letter(s[i]) && !digit(s[i]) {
			return false
		}
	}
	return true
}

func letter(b byte) bool { return 'a' <= b && b <= 'z' }

func digit(b byte) bool { return '0' <= b && b <= '9' }

// Check: what is wrong with a?
func Check(a api.Atom) api.Errno {
	switch {
	case !Name(a.Name), a.Flag != "" && !Name(a.Flag):
		return api.ErrText
	case a.Op < 0, a.Op >= len(signs), a.Slot < 0, a.Slot > api.MaxSlot, !versionMayBe(a):
		return api.ErrRange
	case a.On && a.Flag == "":
		return api.ErrForm
	}
	return api.OK
}

// versionMayBe: does a's Version go with its Op?
func versionMayBe(a api.Atom) bool {
	if a.Op == api.Any {
		return a.Version == 0
	}
	return 1 <= a.Version && a.Version <= api.MaxVersion
}

// Fits: are this version and this slot what a asks? It takes atoms that Check refuses, too.
func Fits(a api.Atom, version, slot int) bool {
	if a.Slot != 0 && a.Slot != slot {
		return false
	}
	switch a.Op {
	case api.Just:
		return version == a.Version
	case api.Least:
		return version >= a.Version
	case api.Below:
		return version < a.Version
	}
	return true
}
