package atom

import (
	"strconv"
	"strings"

	"quartermaster/api"
	"quartermaster/number"
)

// Print: a as a text that Parse takes back.
func Print(a api.Atom) (string, api.Errno) {
	if e := Check(a); e != api.OK {
		return "", e
	}
	var b strings.Builder
	b.WriteString(a.Name)
	if a.Op != api.Any {
		b.WriteString(signs[a.Op])
		b.WriteString(strconv.Itoa(a.Version))
	}
	if a.Slot != 0 {
		b.WriteByte(':')
		b.WriteString(strconv.Itoa(a.Slot))
	}
	if a.Flag != "" {
		b.WriteByte(flagMark(a.On))
		b.WriteString(a.Flag)
	}
	return b.String(), api.OK
}

func flagMark(on bool) byte {
	if on {
		return '+'
	}
	return '-'
}

// Parse: the atom that s says.
func Parse(s string) (api.Atom, api.Errno) {
	if len(s) > api.MaxText {
		return api.Atom{}, api.ErrMany
	}
	a, ok := read(s)
	if !ok {
		return api.Atom{}, api.ErrText
	}
	if e := Check(a); e != api.OK {
		return api.Atom{}, e
	}
	// The names are pieces of s: without copies the answer would keep all of s.
	a.Name, a.Flag = strings.Clone(a.Name), strings.Clone(a.Flag)
	return a, api.OK
}

// read takes s apart from its end on, as what stands behind a mark may hold the marks of what stands ahead; it is false if s isn't written as an atom.
func read(s string) (api.Atom, bool) {
	var a api.Atom
	s, flag := part(s, "+-")
	s, slot := part(s, ":")
	name, version := part(s, "=<>")
	a.Name = name
	ok := readFlag(&a, flag) && readSlot(&a, slot) && readVersion(&a, version)
	return a, ok
}

// part parts s ahead of the first of marks; tail, with that mark, is "" if there is none.
func part(s, marks string) (ahead, tail string) {
	i := strings.IndexAny(s, marks)
	if i < 0 {
		return s, ""
	}
	return s[:i], s[i:]
}

func readFlag(a *api.Atom, tail string) bool {
	if tail == "" {
		return true
	}
	a.On, a.Flag = tail[0] == '+', tail[1:]
	return a.Flag != ""
}

func readSlot(a *api.Atom, tail string) bool {
	if tail == "" {
		return true
	}
	var ok bool
	a.Slot, ok = number.Read(tail[1:])
	return ok && a.Slot != 0
}

func readVersion(a *api.Atom, tail string) bool {
	if tail == "" {
		return true
	}
	for op := api.Just; op < len(signs); op++ {
		if digits, ok := strings.CutPrefix(tail, signs[op]); ok {
			a.Op = op
			a.Version, ok = number.Read(digits)
			return ok
		}
	}
	return false
}
