package atom

import (
	"math"
	"strings"
	"testing"

	"quartermaster/api"
)

func TestName(t *testing.T) {
	longest := strings.Repeat("z", api.MaxName)
	for _, s := range []string{"a", "z", "a0", "z9", "a1b2", longest, "a" + strings.Repeat("9", api.MaxName-1)} {
		if !Name(s) {
			t.Errorf("%q is a name", s)
		}
	}
	for _, s := range []string{"", longest + "z", "0", "9a", "A", "aB", "a b", " a", "a ", "a_", "a-b", "a\x00", "a\n", "ä", "aä", "a\xff", "`", "{", "a/", "a:"} {
		if Name(s) {
			t.Errorf("%q is no name", s)
		}
	}
}

func TestCheckTakes(t *testing.T) {
	longest := strings.Repeat("n", api.MaxName)
	for _, a := range []api.Atom{
		{Name: "a"},
		{Name: longest, Flag: longest},
		{Name: "a", Op: api.Just, Version: 1},
		{Name: "a", Op: api.Least, Version: api.MaxVersion},
		{Name: "a", Op: api.Below, Version: 1, Slot: api.MaxSlot},
		{Name: "a", Slot: 1, Flag: "x"},
		{Name: "a", Flag: "x", On: true},
	} {
		if e := Check(a); e != api.OK {
			t.Errorf("%+v: %d", a, e)
		}
	}
}

// wrongAtoms: atoms that may not be, with the error that is told first.
func wrongAtoms() map[api.Atom]api.Errno {
	tooLong := strings.Repeat("n", api.MaxName+1)
	return map[api.Atom]api.Errno{
		{}:                                   api.ErrText,
		{Name: tooLong}:                      api.ErrText,
		{Name: "1a"}:                         api.ErrText,
		{Name: "a", Flag: "X"}:               api.ErrText,
		{Name: "a", Flag: "1x"}:              api.ErrText,
		{Name: "a", Flag: tooLong, On: true}: api.ErrText,

		{Name: "a", Op: -1, Version: 1}:                           api.ErrRange,
		{Name: "a", Op: 4, Version: 1}:                            api.ErrRange,
		{Name: "a", Op: math.MinInt}:                              api.ErrRange,
		{Name: "a", Op: math.MaxInt, Version: 1}:                  api.ErrRange,
		{Name: "a", Slot: -1}:                                     api.ErrRange,
		{Name: "a", Slot: api.MaxSlot + 1}:                        api.ErrRange,
		{Name: "a", Version: 1}:                                   api.ErrRange,
		{Name: "a", Version: -1}:                                  api.ErrRange,
		{Name: "a", Op: api.Just}:                                 api.ErrRange,
		{Name: "a", Op: api.Least}:                                api.ErrRange,
		{Name: "a", Op: api.Below}:                                api.ErrRange,
		{Name: "a", Op: api.Just, Version: -1}:                    api.ErrRange,
		{Name: "a", Op: api.Below, Version: api.MaxVersion + 1}:   api.ErrRange,
		{Name: "a", Op: api.Least, Version: math.MaxInt}:          api.ErrRange,
		{Name: "a", Op: api.Least, Version: 1, Slot: math.MinInt}: api.ErrRange,

		{Name: "a", On: true}: api.ErrForm,
		{Name: "a", Op: api.Just, Version: 1, Slot: 1, On: true}: api.ErrForm,

		// Several at once: ErrText is told ahead of ErrRange, that ahead of ErrForm.
		{Name: "", Op: 9, On: true}:                     api.ErrText,
		{Name: "a", Slot: 10, Flag: "+"}:                api.ErrText,
		{Name: "a", Op: api.Just, Version: 0, On: true}: api.ErrRange,
		{Name: "a", Slot: -1, On: true}:                 api.ErrRange,
	}
}

func TestCheckRefuses(t *testing.T) {
	for a, want := range wrongAtoms() {
		if e := Check(a); e != want {
			t.Errorf("%+v: %d, want %d", a, e, want)
		}
	}
}

func TestFits(t *testing.T) {
	for _, c := range []struct {
		a             api.Atom
		version, slot int
		want          bool
	}{
		{api.Atom{}, 1, 1, true},
		{api.Atom{}, math.MinInt, math.MaxInt, true},
		{api.Atom{Slot: 2}, 7, 2, true},
		{api.Atom{Slot: 2}, 7, 1, false},
		{api.Atom{Slot: 2}, 7, 0, false},
		{api.Atom{Op: api.Just, Version: 3}, 3, 1, true},
		{api.Atom{Op: api.Just, Version: 3}, 2, 1, false},
		{api.Atom{Op: api.Just, Version: 3}, 4, 1, false},
		{api.Atom{Op: api.Least, Version: 3}, 2, 1, false},
		{api.Atom{Op: api.Least, Version: 3}, 3, 1, true},
		{api.Atom{Op: api.Least, Version: 3}, 4, 1, true},
		{api.Atom{Op: api.Below, Version: 3}, 2, 1, true},
		{api.Atom{Op: api.Below, Version: 3}, 3, 1, false},
		{api.Atom{Op: api.Below, Version: 3}, 4, 1, false},
		{api.Atom{Op: api.Just, Version: 3, Slot: 1}, 3, 2, false},
		{api.Atom{Op: api.Least, Version: 3, Slot: 1}, 2, 1, false},
		{api.Atom{Op: api.Below, Version: 3, Slot: 1}, 2, 1, true},
		// What Check refuses is asked all the same.
		{api.Atom{Version: 5}, 1, 1, true},
		{api.Atom{Op: 4, Version: 5}, 1, 1, true},
		{api.Atom{Op: -1, Version: 5, Slot: -3}, 1, -3, true},
		{api.Atom{Op: -1, Version: 5, Slot: -3}, 1, 3, false},
		{api.Atom{Op: api.Below, Version: -5}, -6, 0, true},
		// Name and Flag have no say.
		{api.Atom{Name: "?", Flag: "?", On: true}, 1, 1, true},
	} {
		if got := Fits(c.a, c.version, c.slot); got != c.want {
			t.Errorf("%+v of version %d, slot %d: %v", c.a, c.version, c.slot, got)
		}
	}
}
