package tree

import (
	"math"
	"slices"
	"testing"

	"quartermaster/api"
)

// on: a member with so many flags.
func on(place, flags int) api.Member { return api.Member{Place: place, On: make([]bool, flags)} }

func TestCheckSet(t *testing.T) {
	// The flags of shop's packages: 1, 2, 0, 1, 0.
	for i, c := range []struct {
		l    []api.Member
		want api.Errno
	}{
		{nil, api.OK},
		{[]api.Member{}, api.OK},
		{[]api.Member{on(0, 1)}, api.OK},
		{[]api.Member{{Place: 1, On: []bool{true, false}}}, api.OK},
		{[]api.Member{{Place: 2}}, api.OK},
		{[]api.Member{on(2, 0), on(4, 0)}, api.OK},
		{[]api.Member{on(0, 1), on(1, 2), on(2, 0), on(3, 1), on(4, 0)}, api.OK},

		{[]api.Member{on(-1, 0)}, api.ErrWho},
		{[]api.Member{on(5, 0)}, api.ErrWho},
		{[]api.Member{on(math.MinInt, 0)}, api.ErrWho},
		{[]api.Member{on(math.MaxInt, 0)}, api.ErrWho},
		{[]api.Member{on(0, 1), on(5, 0)}, api.ErrWho},
		{[]api.Member{on(2, 0), on(2, 0)}, api.ErrTwice},
		{[]api.Member{on(4, 0), on(2, 0)}, api.ErrTwice},
		{[]api.Member{on(0, 1), on(2, 0), on(0, 1)}, api.ErrTwice},
		{[]api.Member{on(0, 0)}, api.ErrForm},
		{[]api.Member{on(0, 2)}, api.ErrForm},
		{[]api.Member{on(1, 1)}, api.ErrForm},
		{[]api.Member{on(1, 3)}, api.ErrForm},
		{[]api.Member{on(2, 1)}, api.ErrForm},
		{[]api.Member{on(0, 1), on(3, 0)}, api.ErrForm},

		// Several at once: of one member in the order of the chapter; else the first one's.
		{[]api.Member{on(0, 1), on(-1, 9)}, api.ErrWho},
		{[]api.Member{on(2, 0), on(0, 9)}, api.ErrTwice},
		{[]api.Member{on(0, 9), on(5, 0)}, api.ErrForm},
		{[]api.Member{on(2, 0), on(2, 0), on(5, 0)}, api.ErrTwice},
		{[]api.Member{on(2, 1), on(2, 0)}, api.ErrForm},
		{[]api.Member{on(5, 0), on(5, 0)}, api.ErrWho},
		{slices.Repeat([]api.Member{on(4, 0)}, 100000), api.ErrTwice},
	} {
		if e := CheckSet(shop(), c.l); e != c.want {
			t.Errorf("%d: %d, want %d", i, e, c.want)
		}
	}
	if e := CheckSet(api.Tree{}, nil); e != api.OK {
		t.Errorf("nothing of nothing: %d", e)
	}
	if e := CheckSet(api.Tree{}, []api.Member{{}}); e != api.ErrWho {
		t.Errorf("something of nothing: %d", e)
	}
}

// TestSameSet holds every list against every other one, those that no tree has too.
func TestSameSet(t *testing.T) {
	lists := [][]api.Member{
		{},
		{{}},
		{{}, {}},
		{{Place: 1}},
		{{Place: -1}},
		{{On: []bool{false}}},
		{{On: []bool{true}}},
		{{On: []bool{true, false}}},
		{{On: []bool{false, true}}},
		{{On: []bool{false, false}}},
		{{Place: 1, On: []bool{true}}},
		{{Place: 1, On: []bool{true}}, {Place: 2}},
		{{Place: 2}, {Place: 1, On: []bool{true}}},
		{{Place: 1}, {Place: 2, On: []bool{true}}},
		{{Place: math.MaxInt}, {Place: math.MinInt}},
	}
	for i, a := range lists {
		for j, b := range lists {
			if got := SameSet(a, copied(b)); got != (i == j) {
				t.Errorf("%v and %v: %v", a, b, got)
			}
		}
	}
	if !SameSet(nil, []api.Member{}) || !SameSet([]api.Member{{}}, []api.Member{{On: []bool{}}}) {
		t.Error("nil and empty lists are alike")
	}
}

func copied(l []api.Member) []api.Member {
	l = slices.Clone(l)
	for k, m := range l {
		l[k].On = slices.Clone(m.On)
	}
	return l
}
