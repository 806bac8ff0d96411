package atom

import (
	"math"
	"regexp"
	"strconv"
	"strings"
	"testing"

	"quartermaster/api"
)

func TestPrint(t *testing.T) {
	for want, a := range map[string]api.Atom{
		"a":           {Name: "a"},
		"a=1":         {Name: "a", Op: api.Just, Version: 1},
		"a>=2:1+x":    {Name: "a", Op: api.Least, Version: 2, Slot: 1, Flag: "x", On: true},
		"a<10-x":      {Name: "a", Op: api.Below, Version: 10, Flag: "x"},
		"a:9":         {Name: "a", Slot: api.MaxSlot},
		"b2+b2":       {Name: "b2", Flag: "b2", On: true},
		"b2:3-y1":     {Name: "b2", Slot: 3, Flag: "y1"},
		"abcdefgh=99": {Name: "abcdefgh", Op: api.Just, Version: api.MaxVersion},
	} {
		if s, e := Print(a); s != want || e != api.OK {
			t.Errorf("%+v: %q, %d, want %q", a, s, e, want)
		}
	}
}

func TestPrintRefuses(t *testing.T) {
	for a, want := range wrongAtoms() {
		if s, e := Print(a); s != "" || e != want {
			t.Errorf("%+v: %q, %d, want %d", a, s, e, want)
		}
	}
}

func TestParse(t *testing.T) {
	for s, want := range map[string]api.Atom{
		"a":             {Name: "a"},
		"a1b2":          {Name: "a1b2"},
		"a=1":           {Name: "a", Op: api.Just, Version: 1},
		"a>=99":         {Name: "a", Op: api.Least, Version: api.MaxVersion},
		"a<2":           {Name: "a", Op: api.Below, Version: 2},
		"a:1":           {Name: "a", Slot: 1},
		"a:9":           {Name: "a", Slot: api.MaxSlot},
		"a+x":           {Name: "a", Flag: "x", On: true},
		"a-x":           {Name: "a", Flag: "x"},
		"a>=2:1+x":      {Name: "a", Op: api.Least, Version: 2, Slot: 1, Flag: "x", On: true},
		"a<2-abcdefgh":  {Name: "a", Op: api.Below, Version: 2, Flag: "abcdefgh"},
		"abcdefgh:2-x9": {Name: "abcdefgh", Slot: 2, Flag: "x9"},
	} {
		if a, e := Parse(s); a != want || e != api.OK {
			t.Errorf("%q: %+v, %d, want %+v", s, a, e, want)
		}
	}
}

func TestParseRefuses(t *testing.T) {
	greatest := strconv.Itoa(math.MaxInt)
	for s, want := range map[string]api.Errno{
		// No name, or none that may be.
		"": api.ErrText, "=1": api.ErrText, ":1": api.ErrText, "+x": api.ErrText, "1a": api.ErrText, "A": api.ErrText, "abcdefghi": api.ErrText, " a": api.ErrText, "a ": api.ErrText, "ä": api.ErrText, "a\xff": api.ErrText,
		// An Op that is none, or no number behind it.
		"a>2": api.ErrText, "a<=2": api.ErrText, "a==2": api.ErrText, "a=>2": api.ErrText, "a>>=2": api.ErrText, "a>": api.ErrText, "a=": api.ErrText, "a>=": api.ErrText, "a<": api.ErrText, "a=x": api.ErrText, "a= 1": api.ErrText, "a=1=1": api.ErrText,
		// Numbers that strconv.Itoa doesn't write; a minus begins a flag.
		"a=01": api.ErrText, "a=00": api.ErrText, "a=1_0": api.ErrText, "a=0x1": api.ErrText, "a:01": api.ErrText, "a=-1": api.ErrText, "a:-1": api.ErrText, "a=+1": api.ErrText, "a:+1": api.ErrText, "a=1.0": api.ErrText, "a=\u0661": api.ErrText,
		"a=" + greatest + "0": api.ErrText, "a:" + greatest + "0": api.ErrText,
		// Slots.
		"a:": api.ErrText, "a:0": api.ErrText, "a:x": api.ErrText, "a:1:2": api.ErrText, "a:1=2": api.ErrText, "a::1": api.ErrText,
		// Flags: all behind the first mark.
		"a+": api.ErrText, "a-": api.ErrText, "a+x-y": api.ErrText, "a-x+y": api.ErrText, "a++x": api.ErrText, "a+x:1": api.ErrText, "a+x=1": api.ErrText, "a+X": api.ErrText, "a+1": api.ErrText, "a+abcdefghi": api.ErrText,
		// Written so, but out of range.
		"a=0": api.ErrRange, "a>=0": api.ErrRange, "a<0": api.ErrRange, "a=100": api.ErrRange, "a:10": api.ErrRange, "a<100:1+x": api.ErrRange, "a=" + greatest: api.ErrRange, "a:" + greatest: api.ErrRange,
		// Several at once: how it is written comes first, then Check's ErrText, then its ErrRange.
		"a=100:0": api.ErrText, "A=100": api.ErrText, "a=100+X": api.ErrText, "a:10+": api.ErrText, "a=100:10": api.ErrRange,
	} {
		if a, e := Parse(s); a != (api.Atom{}) || e != want {
			t.Errorf("%q: %+v, %d, want %d", s, a, e, want)
		}
	}
}

func TestParseOfLongTexts(t *testing.T) {
	for _, begin := range []string{"a", "a=1", "a:1", "a+x"} {
		longest := begin + strings.Repeat("1", api.MaxText-len(begin))
		if a, e := Parse(longest); a != (api.Atom{}) || e != api.ErrText {
			t.Errorf("%s.., MaxText bytes: %+v, %d", begin, a, e)
		}
		if a, e := Parse(longest + "1"); a != (api.Atom{}) || e != api.ErrMany {
			t.Errorf("%s.., a byte more: %+v, %d", begin, a, e)
		}
	}
}

// TestParseOfPrint goes through all that an atom may be, but for its names.
func TestParseOfPrint(t *testing.T) {
	for _, name := range []string{"a", "z9", "abcdefgh"} {
		for _, flag := range []api.Atom{{}, {Flag: "x"}, {Flag: "x", On: true}, {Flag: "a2345678", On: true}} {
			for op := api.Any; op <= api.Below; op++ {
				for version := range api.MaxVersion + 1 {
					for slot := range api.MaxSlot + 1 {
						a := api.Atom{Name: name, Op: op, Version: version, Slot: slot, Flag: flag.Flag, On: flag.On}
						if (op == api.Any) == (version == 0) {
							comesBack(t, a)
						}
					}
				}
			}
		}
	}
}

func comesBack(t *testing.T, a api.Atom) {
	t.Helper()
	s, e := Print(a)
	if e != api.OK {
		t.Fatalf("Print of %+v: %d", a, e)
	}
	if got, e := Parse(s); got != a || e != api.OK {
		t.Fatalf("Parse of %q: %+v, %d, want %+v", s, got, e, a)
	}
}

// TestParseOfAllShortTexts holds Parse of every short text of the marks against a pattern of what may be written.
func TestParseOfAllShortTexts(t *testing.T) {
	written := regexp.MustCompile(`^[a-z][a-z0-9]*((=|>=|<)(0|[1-9][0-9]*))?(:([1-9][0-9]*))?([-+][a-z][a-z0-9]*)?$`)
	expected := func(s string) api.Errno {
		m := written.FindStringSubmatch(s)
		if m == nil {
			return api.ErrText
		}
		version, _ := strconv.Atoi(m[3])
		slot, _ := strconv.Atoi(m[5])
		if m[2] != "" && version == 0 || version > api.MaxVersion || slot > api.MaxSlot {
			return api.ErrRange
		}
		return api.OK
	}
	var walk func(s string, more int)
	walk = func(s string, more int) {
		a, e := Parse(s)
		if want := expected(s); e != want {
			t.Fatalf("%q: %d, want %d", s, e, want)
		}
		if back, _ := Print(a); e == api.OK && back != s {
			t.Fatalf("%q is taken as %+v, which is %q", s, a, back)
		}
		if more == 0 {
			return
		}
		for _, b := range "a01=<>:+-" {
			walk(s+string(b), more-1)
		}
	}
	walk("", 6)
}
