package need

import (
	"regexp"
	"strings"
	"testing"

	"quartermaster/api"
)

func TestPrintAndParse(t *testing.T) {
	for s, n := range rightNeeds() {
		if got, e := Print(n); got != s || e != api.OK {
			t.Errorf("Print: %q, %d, want %q", got, e, s)
		}
		if got, e := Parse(s); !alike(got, n) || e != api.OK {
			t.Errorf("Parse of %q: %+v, %d", s, got, e)
		}
	}
}

func TestParseRefuses(t *testing.T) {
	for want, texts := range map[api.Errno][]string{
		api.ErrText: {
			// Words that say nothing.
			"", " ", "  ", ")", "!", "?", "!?", "|", "|||", "!||", "!(", "!)", "()", "a,b", "\n", "a\n", "a\t", "(\ta )",
			// Blanks.
			" a", "a ", "( )  ", " ( )", "(  )", "(  a )", "( a  b )", "( a", "(a )", "( a)", "||( a )", "|| (a )", "x?( )", "x? ()",
			// Groups without a begin, or an end; more than one need.
			"(", "( ", ") (", "( ) )", "( ( )", "( a ) )", "a b", "( ) ( )", "a )", "( ) a", "||", "|| a", "|| || ( )", "|| )", "|| x? ( )", "x?", "x? a", "x? y? ( )", "x? || ( )", "!x?", "!x? !a", "|| (", "x? ( a", "x? ( ) ( )",
			// Ifs without a name.
			"? ( )", "!? ( )", "!!x? ( )", "X? ( )", "1? ( )", "x?? ( )", "x!? ( )", "abcdefghi? ( )", "||? ( )", "(? ( )", "a=1? ( )",
			// What is no atom to chapter 1's Parse, for whatever reason.
			"!!a", "( !!b )", "A", "( a A )", "!A", "a!", "a=0", "a=100", "( !a=100 )", "a:0", "a:10", "a+", "a>1", "|| ( a=01 )",
			// Too deep.
			"( ( ( ( a ) ) ) )", "( ( ( ( ( ) ) ) ) )", "( || ( x? ( !y? ( !a ) ) ) )", "( a ( ( ( b ) ) ) )", strings.Repeat("( ", 5000) + strings.Repeat(") ", 4999) + ")", strings.Repeat("( ", 10000),
			// Too many as well: how it is written comes first.
			"(" + strings.Repeat(" a", api.MaxNodes) + " A )", "(" + strings.Repeat(" a", api.MaxNodes) + " X? ( ) )", "(" + strings.Repeat(" a", api.MaxNodes), "(" + strings.Repeat(" a", api.MaxNodes) + " ( ( ( ( ) ) ) ) )",
		},
		api.ErrMany: {
			"(" + strings.Repeat(" a", api.MaxNodes) + " )",
			"( ||" + " (" + strings.Repeat(" a", 9) + " ) x? (" + strings.Repeat(" !a", 9) + " ) )",
			"(" + strings.Repeat(" ( )", 4999) + " )",
			strings.Repeat("a", api.MaxText+1),
			strings.Repeat(" ", api.MaxText+1),
			"( " + strings.Repeat("(", api.MaxText),
		},
	} {
		for _, s := range texts {
			if n, e := Parse(s); !Same(n, api.Need{}) || e != want {
				t.Errorf("%.60q: %+v, %d, want %d", s, n, e, want)
			}
		}
	}
}

// TestParseOfLongTexts: MaxText bytes are read, one more isn't.
func TestParseOfLongTexts(t *testing.T) {
	longest := "(" + strings.Repeat(" a", (api.MaxText-4)/2) + "1 )"
	if len(longest) != api.MaxText {
		t.Fatalf("%d bytes", len(longest))
	}
	for s, want := range map[string]api.Errno{
		strings.Repeat("a", api.MaxText):             api.ErrText,
		strings.Repeat("a", api.MaxText+1):           api.ErrMany,
		strings.Replace(longest, " a a", " A a", 1):  api.ErrText,
		strings.Replace(longest, " a a", " A aa", 1): api.ErrMany,
		longest: api.ErrMany,
	} {
		if n, e := Parse(s); !Same(n, api.Need{}) || e != want {
			t.Errorf("%.20q, %d bytes: %+v, %d, want %d", s, len(s), n, e, want)
		}
	}
}

// A need of the words below; a group of needs whose depths stand there as digits.
var (
	leafPattern  = regexp.MustCompile(`(^| )!?a\b`)
	groupPattern = regexp.MustCompile(`(^| )((\|\||!?x\?) )?\(( [1-9])* \)`)
)

// written: is s, of the words below, written as a need that isn't too deep? From the inside out, each need in it is replaced by its depth.
func written(s string) bool {
	s = leafPattern.ReplaceAllString(s, "${1}1")
	for before := ""; before != s; {
		before = s
		s = groupPattern.ReplaceAllStringFunc(s, func(found string) string {
			depth := byte('1')
			for i := range len(found) {
				if '1' <= found[i] && found[i] <= '9' {
					depth = max(depth, found[i]+1)
				}
			}
			return found[:strings.IndexAny(found, "(|!x")] + string(depth)
		})
	}
	return len(s) == 1 && '1' <= s[0] && s[0] <= '0'+api.MaxDepth
}

// TestParseOfAllShortTexts holds Parse of every short row of words against how it must be written; of few words the rows are long enough to be too deep.
func TestParseOfAllShortTexts(t *testing.T) {
	deep := 0
	var walk func(words []string, s string, more int)
	walk = func(words []string, s string, more int) {
		n, e := Parse(s)
		if want := written(s); (e == api.OK) != want || e != api.OK && e != api.ErrText {
			t.Fatalf("%q: %d, written so: %v", s, e, want)
		}
		if back, _ := Print(n); e == api.OK && back != s {
			t.Fatalf("%q is taken as %+v, which is %q", s, n, back)
		}
		if e == api.ErrText && written(strings.Replace(s, "( a )", "a", 1)) {
			deep++
		}
		for _, word := range words {
			if more > 0 {
				walk(words, s+" "+word, more-1)
			}
		}
	}
	for _, word := range []string{"(", ")", "||", "x?", "!x?", "a", "!a", ""} {
		walk([]string{"(", ")", "||", "x?", "!x?", "a", "!a", ""}, word, 5)
	}
	walk([]string{"(", ")", "a"}, "(", 9)
	if deep == 0 {
		t.Error("no text was but too deep")
	}
}

// TestParseOfPrint goes through all needs of a few nodes.
func TestParseOfPrint(t *testing.T) {
	lists := func(of []api.Need) [][]api.Need {
		out := [][]api.Need{nil}
		for _, a := range of {
			out = append(out, []api.Need{a})
			for _, b := range of {
				out = append(out, []api.Need{a, b})
			}
		}
		return out
	}
	around := func(of []api.Need) []api.Need {
		out := []api.Need{want("a"), block("b1"), {Kind: api.Want, A: api.Atom{Name: "c", Op: api.Below, Version: 7, Slot: 2, Flag: "x"}}}
		for _, kids := range lists(of) {
			out = append(out, all(kids...), some(kids...), when("x", kids...), unless("y2", kids...))
		}
		return out
	}
	for _, n := range around(around(nil)) {
		for _, n := range []api.Need{n, all(want("d"), n), when("z", some(n))} {
			s, e := Print(n)
			if e != api.OK {
				t.Fatalf("Print of %+v: %d", n, e)
			}
			if got, e := Parse(s); !alike(got, n) || e != api.OK {
				t.Fatalf("Parse of %q: %+v, %d", s, got, e)
			}
		}
	}
}
