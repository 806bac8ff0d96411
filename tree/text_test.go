package tree

import (
	"regexp"
	"slices"
	"strconv"
	"strings"
	"testing"

	"quartermaster/api"
	"quartermaster/need"
)

// alike: are all fields of a and b alike? nil and empty lists are.
func alike(a, b api.Tree) bool {
	return slices.EqualFunc(a.Packages, b.Packages, func(p, q api.Package) bool {
		return p.Name == q.Name && p.Version == q.Version && p.Slot == q.Slot && slices.Equal(p.Flags, q.Flags) && need.Same(p.Need, q.Need)
	})
}

func TestPrintAndParse(t *testing.T) {
	for s, x := range rightTrees() {
		if got, e := Print(x); got != s || e != api.OK {
			t.Errorf("Print: %q, %d, want %q", got, e, s)
		}
		if got, at, e := Parse(s); !alike(got, x) || at != 0 || e != api.OK {
			t.Errorf("Parse of %q: %+v, %d, %d", s, got, at, e)
		}
	}
}

type refusal struct {
	at int
	e  api.Errno
}

func refuses(t *testing.T, s string, want refusal) {
	t.Helper()
	if x, at, e := Parse(s); x.Packages != nil || at != want.at || e != want.e {
		t.Errorf("%.60q: %+v, at %d, %d, want at %d, %d", s, x, at, e, want.at, want.e)
	}
}

// wrongLines: lines that aren't written so, without their ends.
func wrongLines() map[string]api.Errno {
	lines := map[string]api.Errno{}
	for _, s := range []string{
		// Too few blanks.
		"", " ", "  ", "   ", "a", "a 1", "a 1 1", "a 1 1 x", "a 1 1 ( )", "a\t1\t1\tx\t( )", "a 1 1 x( )",
		// All four, but no need, or no number.
		"    ", "a 1 1  ", "a 1 1 x ", "a   x ( )", " a 1 1 x ( )", "a  1 1 x ( )", "a 1  1 x ( )", "a 1 1 x y ( )", "a 1 1 x, y ( )",
		// Numbers that strconv.Itoa doesn't write.
		"a x 1  ( )", "a 1 x  ( )", "a 01 1  ( )", "a 1 01  ( )", "a +1 1  ( )", "a 1 +1  ( )", "a -0 1  ( )", "a 1 -0  ( )", "a 1.0 1  ( )", "a 0x1 1  ( )", "a 1_0 1  ( )", "a \u0661 1  ( )", "a 99999999999999999999 1  ( )", "a 1 -99999999999999999999  ( )",
		// No need to chapter 2.
		"a 1 1   ( )", "a 1 1  ( ) ", "a 1 1  (", "a 1 1  ( b", "a 1 1  b c", "a 1 1  ( B )", "a 1 1  ( b=100 )", "a 1 1  ( b )\r", "a 1 1  ( X? ( ) )", "a 1 1  ( ( ( ( b ) ) ) )", "a 1 1  ( )( )",
		// What is wrong with numbers comes ahead of a need with too much in it.
		"a x 1  " + tooMuch(), "a 1 x  " + tooMuch(),
	} {
		lines[s] = api.ErrText
	}
	lines["a 1 1  "+tooMuch()] = api.ErrMany
	lines["A 0 0 X "+tooMuch()] = api.ErrMany
	lines["a 1 1  ||"+tooMuch()[1:]] = api.ErrText
	return lines
}

// tooMuch: a need that is written well, with a node too much.
func tooMuch() string { return "(" + strings.Repeat(" b", api.MaxNodes) + " )" }

func TestParseTellsTheLine(t *testing.T) {
	// The lines ahead may be ones that Check refuses: that comes when all are read.
	for _, ahead := range [][]string{{}, {"a 1 1  ( )"}, {"a 1 1  ( )", "b 2 2 x ( )", "c 3 3 x,y ( x? ( ) )"}, {"B 0 0 X a"}, strings.Split(strings.Repeat("a 1 1  ( );", 20)+"a 1 1  ( )", ";")} {
		begin := strings.Join(append(ahead, ""), "\n")
		for l, e := range wrongLines() {
			refuses(t, begin+l+"\n", refusal{len(ahead), e})
			refuses(t, begin+l+"\na 1 1  ( )\n", refusal{len(ahead), e})
			refuses(t, begin+l+"\nx\n", refusal{len(ahead), e})
		}
		for _, l := range []string{"a", " ", "a 1 1", "z 1 1  ( )", "z 1 1 x ( x? ( ) )", "z 1 1  b", "z 1 1  " + tooMuch()} {
			refuses(t, begin+l, refusal{len(ahead), api.ErrText})
		}
	}
}

// TestParseThenChecks: what is written well, but may not be, is Check's error, at 0 wherever it is.
func TestParseThenChecks(t *testing.T) {
	for s, e := range map[string]api.Errno{
		" 1 1  ( )\n":                      api.ErrText,
		"A 1 1  ( )\n":                     api.ErrText,
		"a 1 1  ( )\nB 1 1  ( )\n":         api.ErrText,
		"abcdefghi 1 1  ( )\n":             api.ErrText,
		"a\xff 1 1  ( )\n":                 api.ErrText,
		"a 0 1  ( )\n":                     api.ErrRange,
		"a -1 1  ( )\n":                    api.ErrRange,
		"a 100 1  ( )\n":                   api.ErrRange,
		"a 1 0  ( )\n":                     api.ErrRange,
		"a 1 -1  ( )\n":                    api.ErrRange,
		"a 1 10  ( )\n":                    api.ErrRange,
		"a 9223372036854775807 1  ( )\n":   api.ErrRange,
		"a 1 1  ( )\nb 1 0  ( )\n":         api.ErrRange,
		"a 1 1 , ( )\n":                    api.ErrText,
		"a 1 1 x, ( )\n":                   api.ErrText,
		"a 1 1 ,x ( )\n":                   api.ErrText,
		"a 1 1 X ( )\n":                    api.ErrText,
		"a 1 1 ( ( )\n":                    api.ErrText,
		"a 1 1 x;y ( )\n":                  api.ErrText,
		"a 1 1 x,,y ( )\n":                 api.ErrMany,
		"a 1 1 ,, ( )\n":                   api.ErrMany,
		"a 1 1 x,y,z ( )\n":                api.ErrMany,
		"a 1 1 x,x ( )\n":                  api.ErrTwice,
		"a 1 1 y,x ( )\n":                  api.ErrTwice,
		"a 1 1  b\n":                       api.ErrForm,
		"a 1 1  !b\n":                      api.ErrForm,
		"a 1 1  || ( )\n":                  api.ErrForm,
		"a 1 1 x x? ( )\n":                 api.ErrForm,
		"a 1 1 x ( y? ( ) )\n":             api.ErrWho,
		"a 1 1  ( )\nb 1 1  ( !x? ( ) )\n": api.ErrWho,
		"a 1 1  ( )\na 1 2  ( )\n":         api.ErrTwice,
		"b 1 1  ( )\na 1 1  ( )\n":         api.ErrTwice,
		"a 10 1  ( )\na 9 1  ( )\n":        api.ErrTwice,
		strings.Repeat("a 1 1  ( )\n", 9):  api.ErrMany,
		strings.Repeat("a 1 1  ( )\n", 8):  api.ErrTwice,
		strings.Repeat("A 1 1  b\n", 2000): api.ErrMany,
		"a 1 1 x,y ( )\na 2 1 x,y ( )\na 3 1 x,y ( )\na 4 1 x,y ( )\na 5 1 x,y ( )\n": api.ErrMany,
	} {
		refuses(t, s, refusal{0, e})
	}
}

// TestParseOfLongTexts: MaxText bytes are read, one more isn't.
func TestParseOfLongTexts(t *testing.T) {
	const first = "a 1 1  ( )\n"
	refuses(t, first+strings.Repeat("a", api.MaxText-len(first)), refusal{1, api.ErrText})
	refuses(t, first+strings.Repeat("a", api.MaxText-len(first)+1), refusal{0, api.ErrMany})
	refuses(t, strings.Repeat("\n", api.MaxText), refusal{0, api.ErrText})
	refuses(t, strings.Repeat("\n", api.MaxText+1), refusal{0, api.ErrMany})
	lines := strings.Repeat(first, api.MaxText/len(first))
	refuses(t, lines, refusal{0, api.ErrMany})
	refuses(t, lines+"\n", refusal{api.MaxText / len(first), api.ErrText})
	refuses(t, lines+first, refusal{0, api.ErrMany})
}

var linePattern = regexp.MustCompile(`^([^ \n]*) (0|-?[1-9][0-9]*) (0|-?[1-9][0-9]*) ([^ \n]*) ([^\n]*)\n`)

// expected: what Parse must answer, by a pattern of a line.
func expected(s string) (api.Tree, refusal) {
	var t api.Tree
	for at := 0; s != ""; at++ {
		m := linePattern.FindStringSubmatch(s)
		if m == nil {
			return api.Tree{}, refusal{at, api.ErrText}
		}
		version, wrongVersion := strconv.Atoi(m[2])
		slot, wrongSlot := strconv.Atoi(m[3])
		if wrongVersion != nil || wrongSlot != nil {
			return api.Tree{}, refusal{at, api.ErrText}
		}
		n, e := need.Parse(m[5])
		if e != api.OK {
			return api.Tree{}, refusal{at, e}
		}
		flags := strings.Split(m[4], ",")
		if m[4] == "" {
			flags = nil
		}
		t.Packages = append(t.Packages, api.Package{Name: m[1], Version: version, Slot: slot, Flags: flags, Need: n})
		s = s[len(m[0]):]
	}
	if e := Check(t); e != api.OK {
		return api.Tree{}, refusal{0, e}
	}
	return t, refusal{}
}

// TestParseOfChangedTexts holds Parse of texts in which a byte or two are changed, left out or put in against a pattern; what is taken is told again as it was written.
func TestParseOfChangedTexts(t *testing.T) {
	taken := 0
	ask := func(s string) {
		x, at, e := Parse(s)
		wantTree, want := expected(s)
		if !alike(x, wantTree) || at != want.at || e != want.e {
			t.Fatalf("%q: %+v, at %d, %d, want %+v, %+v", s, x, at, e, wantTree, want)
		}
		if e != api.OK {
			return
		}
		taken++
		if back, e := Print(x); back != s || e != api.OK {
			t.Fatalf("%q is told as %q, %d", s, back, e)
		}
	}
	pieces := []string{"", " ", "\n", ",", "a", "z", "0", "1", "-", "(", ")", "?", "!", "\xff"}
	var change func(s string, from, more int)
	change = func(s string, from, more int) {
		ask(s)
		for i := from; i < len(s) && more > 0; i++ {
			for _, piece := range pieces {
				change(s[:i]+piece+s[i+1:], i, more-1)
				change(s[:i]+piece+s[i:], i+1, more-1)
			}
		}
	}
	for s := range rightTrees() {
		change(s, 0, 1)
	}
	change("a 1 1 x ( x? ( b ) )\n", 0, 2)
	change("a 1 1  ( )\nb 1 1  ( )\n", 0, 2)
	if taken < 1000 {
		t.Errorf("only %d were taken", taken)
	}
}

// TestParseOfPrint goes through all trees of two packages that a few names, numbers, flags and needs make.
func TestParseOfPrint(t *testing.T) {
	var packages []api.Package
	for _, name := range []string{"a", "b", "b2345678"} {
		for _, version := range []int{1, 10, api.MaxVersion} {
			for _, slot := range []int{1, api.MaxSlot} {
				for _, flags := range [][]string{nil, {"x"}, {"x", "y2345678"}} {
					for _, n := range []api.Need{all(), all(want("a")), all(when("x", want("b")), all()), all(api.Need{Kind: api.Some, Kids: []api.Need{unless("y2345678"), want("c")}})} {
						packages = append(packages, api.Package{Name: name, Version: version, Slot: slot, Flags: flags, Need: n})
					}
				}
			}
		}
	}
	taken := 0
	for _, p := range packages {
		for _, q := range packages {
			x := of(p, q)
			s, e := Print(x)
			if e != Check(x) {
				t.Fatalf("Print of %+v: %d", x, e)
			}
			if e != api.OK {
				continue
			}
			taken++
			if got, at, e := Parse(s); !alike(got, x) || at != 0 || e != api.OK {
				t.Fatalf("Parse of %q: %+v, %d, %d", s, got, at, e)
			}
		}
	}
	if taken == 0 {
		t.Error("no tree was taken")
	}
}

// TestParseOfTheGreatestTree: what Print tells is never too long for Parse.
func TestParseOfTheGreatestTree(t *testing.T) {
	longest := api.Need{Kind: api.Block, A: api.Atom{Name: "abcdefgh", Op: api.Least, Version: 99, Slot: 9, Flag: "abcdefgh", On: true}}
	var x api.Tree
	for k := range api.MaxPackages {
		p := plain("abcdefgh", 90+k)
		if k < 3 {
			p.Flags = []string{"abcdefgh", "abcdefgi"}
		}
		for range api.MaxNodes - 1 {
			p.Need.Kids = append(p.Need.Kids, longest)
		}
		x.Packages = append(x.Packages, p)
	}
	s, e := Print(x)
	if e != api.OK || len(s) > api.MaxText {
		t.Fatalf("%d bytes, %d", len(s), e)
	}
	if got, at, e := Parse(s); !alike(got, x) || at != 0 || e != api.OK {
		t.Errorf("%+v, %d, %d", got, at, e)
	}
}
