package tree

import (
	"strconv"
	"strings"

	"quartermaster/api"
	"quartermaster/need"
	"quartermaster/number"
)

// What stands between words, between flags, and behind a line.
const (
	blank    = " "
	comma    = ","
	lineFeed = "\n"
)

// wordsOfLine: Name, Version, Slot, Flags, Need; only the Need, the last one, has blanks of its own.
const wordsOfLine = 5

// Print: t as a text that Parse takes back.
func Print(t api.Tree) (string, api.Errno) {
	if e := Check(t); e != api.OK {
		return "", e
	}
	var b strings.Builder
	for _, p := range t.Packages {
		b.WriteString(line(p))
		b.WriteString(lineFeed)
	}
	return b.String(), api.OK
}

// line: p, which Check takes, without the line's end.
func line(p api.Package) string {
	needed, _ := need.Print(p.Need)
	words := [wordsOfLine]string{p.Name, strconv.Itoa(p.Version), strconv.Itoa(p.Slot), strings.Join(p.Flags, comma), needed}
	return strings.Join(words[:], blank)
}

// Parse: the tree that s says; or an error, and the line that isn't written so.
func Parse(s string) (t api.Tree, at int, e api.Errno) {
	if len(s) > api.MaxText {
		return api.Tree{}, 0, api.ErrMany
	}
	for s != "" {
		l, rest, ended := strings.Cut(s, lineFeed)
		if !ended {
			return api.Tree{}, at, api.ErrText
		}
		p, e := readLine(l)
		if e != api.OK {
			return api.Tree{}, at, e
		}
		t.Packages = append(t.Packages, p)
		s = rest
		at++
	}
	if e := Check(t); e != api.OK {
		return api.Tree{}, 0, e
	}
	return t, 0, api.OK
}

// readLine: the package that l says. Whether it may be is left to Check, which is asked when all lines are read.
func readLine(l string) (api.Package, api.Errno) {
	words := strings.SplitN(l, blank, wordsOfLine)
	if len(words) < wordsOfLine {
		return api.Package{}, api.ErrText
	}
	version, isVersion := number.Read(words[1])
	slot, isSlot := number.Read(words[2])
	if !isVersion || !isSlot {
		return api.Package{}, api.ErrText
	}
	n, e := need.Parse(words[4])
	if e != api.OK {
		return api.Package{}, e
	}
	// The words are pieces of the text: without a copy the answer would keep all of it.
	return api.Package{Name: strings.Clone(words[0]), Version: version, Slot: slot, Flags: readFlags(strings.Clone(words[3])), Need: n}, api.OK
}

// readFlags: the flags that word says; an empty word says none, where Split would find an empty one.
func readFlags(word string) []string {
	if word == "" {
		return nil
	}
	return strings.Split(word, comma)
}
