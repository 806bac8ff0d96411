package need

import (
	"strings"

	"quartermaster/api"
	"quartermaster/atom"
)

// The words of a need that are no atoms, and the marks of those that hold a name.
const (
	openWord  = "("
	closeWord = ")"
	someWord  = "||"
	ifMark    = "?" // behind a flag
	notMark   = "!" // ahead of an atom, or of a flag
	blank     = " "
)

// Print: n as a text that Parse takes back.
func Print(n api.Need) (string, api.Errno) {
	if e := Check(n); e != api.OK {
		return "", e
	}
	return strings.Join(appendWords(nil, n), blank), api.OK
}

// appendWords: words, and behind them those of n, which Check takes.
func appendWords(words []string, n api.Need) []string {
	switch n.Kind {
	case api.Want, api.Block:
		s, _ := atom.Print(n.A)
		return append(words, marked(n.Kind == api.Block, s))
	case api.Some:
		words = append(words, someWord)
	case api.If:
		words = append(words, marked(n.Not, n.Flag+ifMark))
	}
	words = append(words, openWord)
	for _, kid := range n.Kids {
		words = appendWords(words, kid)
	}
	return append(words, closeWord)
}

func marked(not bool, s string) string {
	if not {
		return notMark + s
	}
	return s
}

// Parse: the need that s says.
func Parse(s string) (api.Need, api.Errno) {
	if len(s) > api.MaxText {
		return api.Need{}, api.ErrMany
	}
	r := reader{words: strings.Split(s, blank)}
	n, ok := r.need(r.next(), 1)
	if !ok || len(r.words) > 0 {
		return api.Need{}, api.ErrText
	}
	if e := Check(n); e != api.OK {
		return api.Need{}, e
	}
	return n, api.OK
}

// reader has the words that are still to be read.
type reader struct{ words []string }

// next reads a word; "", which says nothing in a need, if there is none left.
func (r *reader) next() string {
	if len(r.words) == 0 {
		return ""
	}
	word := r.words[0]
	r.words = r.words[1:]
	return word
}

// need reads what word begins, at depth; it is false if that is no need. What is too deep isn't read, so no text makes it call itself without end.
func (r *reader) need(word string, depth int) (api.Need, bool) {
	if depth > api.MaxDepth {
		return api.Need{}, false
	}
	flag, isIf := strings.CutSuffix(word, ifMark)
	switch {
	case isIf:
		flag, not := strings.CutPrefix(flag, notMark)
		return r.group(api.Need{Kind: api.If, Flag: strings.Clone(flag), Not: not}, depth)
	case word == someWord:
		return r.group(api.Need{Kind: api.Some}, depth)
	case word == openWord:
		return r.kids(api.Need{Kind: api.All}, depth)
	}
	return leaf(word)
}

// group reads what stands behind the word of a Some or an If.
func (r *reader) group(n api.Need, depth int) (api.Need, bool) {
	if n.Kind == api.If && !atom.Name(n.Flag) || r.next() != openWord {
		return api.Need{}, false
	}
	return r.kids(n, depth)
}

// kids reads the Kids of n, which is at depth, and the word that ends them.
func (r *reader) kids(n api.Need, depth int) (api.Need, bool) {
	for word := r.next(); word != closeWord; word = r.next() {
		kid, ok := r.need(word, depth+1)
		if !ok {
			return api.Need{}, false
		}
		n.Kids = append(n.Kids, kid)
	}
	return n, true
}

// leaf: the Want or Block that word says.
func leaf(word string) (api.Need, bool) {
	s, not := strings.CutPrefix(word, notMark)
	a, e := atom.Parse(s)
	if e != api.OK {
		return api.Need{}, false
	}
	if not {
		return api.Need{Kind: api.Block, A: a}, true
	}
	return api.Need{Kind: api.Want, A: a}, true
}
