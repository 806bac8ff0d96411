package valid

import (
	"math"
	"reflect"
	"slices"
	"testing"

	"quartermaster/api"
)

const on, off = true, false

// TestHolds: what the first package, m, needs, in sets of m and others.
func TestHolds(t *testing.T) {
	const rest = "n 1 1 x,y ( )\nn 2 1 x ( )\nn 3 2  ( )\no 1 1  ( )\n"
	alone := set(member(0, off))
	flagged := set(member(0, on))
	with := func(l ...api.Member) []api.Member { return append(set(member(0, off)), l...) }
	for _, c := range []struct {
		need string
		l    []api.Member
		want bool
	}{
		// An All without Kids holds, a Some doesn't.
		{"( )", alone, true},
		{"( ( ) )", alone, true},
		{"( || ( ) )", alone, false},
		{"( f? ( ) )", flagged, true},

		// Wants: of the name, the version, the slot; oneself is a member, too.
		{"( n )", alone, false},
		{"( n )", with(member(4)), false},
		{"( n )", with(member(3)), true},
		{"( n )", with(member(1, off, off), member(4)), true},
		{"( m )", alone, true},
		{"( m=1:1 )", alone, true},
		{"( m=2 )", alone, false},
		{"( nowhere )", with(member(3)), false},
		{"( n=2 )", with(member(1, off, off), member(3)), false},
		{"( n=2 )", with(member(2, off)), true},
		{"( n>=2 )", with(member(2, off)), true},
		{"( n>=2 )", with(member(1, off, off)), false},
		{"( n<2 )", with(member(1, off, off)), true},
		{"( n<2 )", with(member(2, off)), false},
		{"( n:2 )", with(member(2, off)), false},
		{"( n:2 )", with(member(3)), true},
		// Wants of flags, on or off, by the flag's own place; what hasn't the flag is neither.
		{"( n+x )", with(member(1, on, off)), true},
		{"( n+x )", with(member(1, off, on)), false},
		{"( n+y )", with(member(1, off, on)), true},
		{"( n-x )", with(member(1, off, on)), true},
		{"( n-x )", with(member(1, on, off)), false},
		{"( n-y )", with(member(1, off, on)), false},
		{"( n-y )", with(member(2, off)), false},
		{"( n-x )", with(member(3)), false},
		{"( n+x )", with(member(3)), false},
		{"( n+x )", with(member(1, off, on), member(2, on)), true},
		{"( m+f )", alone, false},
		{"( m-f )", alone, true},
		// No two atoms of one package at once.
		{"( n<2+x )", with(member(1, off, off), member(2, on)), false},

		// Blocks: oneself is let be, others aren't.
		{"( !n )", alone, true},
		{"( !n )", with(member(3)), false},
		{"( !n )", with(member(4)), true},
		{"( !m )", alone, true},
		{"( !n=1 )", with(member(2, off), member(3)), true},
		{"( !n+x )", with(member(1, off, on)), true},
		{"( !n+x )", with(member(1, on, off)), false},
		{"( !n-x )", with(member(3)), true},
		{"( !nowhere )", with(member(3)), true},

		// All and Some.
		{"( n o )", with(member(3)), false},
		{"( o n )", with(member(3)), false},
		{"( n o )", with(member(3), member(4)), true},
		{"( || ( n o ) )", alone, false},
		{"( || ( n o ) )", with(member(3)), true},
		{"( || ( n o ) )", with(member(4)), true},
		{"( || ( ( n o ) !n ) )", with(member(3)), false},
		{"( || ( ( n o ) !n ) )", with(member(3), member(4)), true},
		{"( || ( n o ) || ( n=1 o ) )", with(member(3)), false},

		// Ifs: of oneself alone.
		{"( f? ( n ) )", alone, true},
		{"( f? ( n ) )", flagged, false},
		{"( f? ( n ) )", set(member(0, on), member(3)), true},
		{"( !f? ( n ) )", flagged, true},
		{"( !f? ( n ) )", alone, false},
		{"( !f? ( n ) )", with(member(3)), true},
		{"( f? ( n o ) )", set(member(0, on), member(3)), false},
		{"( f? ( !f? ( || ( ) ) ) )", flagged, true},
		{"( !f? ( f? ( || ( ) ) ) )", alone, true},
		{"( || ( f? ( n ) o ) )", alone, true},
		{"( || ( f? ( n ) o ) )", flagged, false},
	} {
		x := parsed(t, "m 1 1 f "+c.need+"\n"+rest)
		if got, e := Holds(x, c.l, 0); got != c.want || e != api.OK {
			t.Errorf("%s of %v: %v, %d", c.need, c.l, got, e)
		}
		// Nothing else needs anything.
		for k := 1; k < len(c.l); k++ {
			if got, e := Holds(x, c.l, k); !got || e != api.OK {
				t.Errorf("%v, of %d: %v, %d", c.l, k, got, e)
			}
		}
		if got, e := Valid(x, api.Wish{}, c.l); got && !c.want || e != api.OK {
			t.Errorf("Valid of %s, %v: %v, %d", c.need, c.l, got, e)
		}
	}
}

// TestHoldsOfMember: k counts members, not packages; a Block lets its own member be, and no other version.
func TestHoldsOfMember(t *testing.T) {
	x := parsed(t, "a 1 1  ( !a )\na 2 2  ( !a=2 )\nb 1 1 x ( x? ( a=1 ) )\n")
	for i, c := range []struct {
		l    []api.Member
		want []bool
	}{
		{set(member(0)), []bool{true}},
		{set(member(0), member(1)), []bool{false, true}},
		{set(member(1), member(2, off)), []bool{true, true}},
		{set(member(1), member(2, on)), []bool{true, false}},
		{set(member(0), member(2, on)), []bool{true, true}},
		{set(member(0), member(1), member(2, on)), []bool{false, true, true}},
		{set(member(2, on)), []bool{false}},
	} {
		for k, want := range c.want {
			if got, e := Holds(x, c.l, k); got != want || e != api.OK {
				t.Errorf("%d of set %d: %v, %d", k, i, got, e)
			}
		}
		for _, k := range []int{-1, len(c.l), len(c.l) + 1, math.MinInt, math.MaxInt} {
			if got, e := Holds(x, c.l, k); got || e != api.ErrWho {
				t.Errorf("no member %d of set %d: %v, %d", k, i, got, e)
			}
		}
	}
	if got, e := Holds(api.Tree{}, nil, 0); got || e != api.ErrWho {
		t.Errorf("nobody: %v, %d", got, e)
	}
}

// TestRefusedSets: what is wrong with a set comes ahead of which member is asked.
func TestRefusedSets(t *testing.T) {
	x := parsed(t, shop)
	for i, c := range []struct {
		l    []api.Member
		want api.Errno
	}{
		{set(member(4)), api.ErrWho},
		{set(member(-1)), api.ErrWho},
		{set(member(1), member(1)), api.ErrTwice},
		{set(member(2, on), member(1)), api.ErrTwice},
		{set(member(0, on)), api.ErrForm},
		{set(member(1), member(2)), api.ErrForm},
		{set(member(1), member(2, on, on), member(4)), api.ErrForm},
		{slices.Repeat(set(member(3, on, on)), 100000), api.ErrTwice},
	} {
		for _, k := range []int{0, -1, len(c.l)} {
			if got, e := Holds(x, c.l, k); got || e != c.want {
				t.Errorf("Holds of %d: %v, %d, want %d", i, got, e, c.want)
			}
		}
		for _, w := range rightWishes() {
			if got, e := Valid(x, w, c.l); got || e != c.want {
				t.Errorf("Valid of %d: %v, %d, want %d", i, got, e, c.want)
			}
		}
	}
}

func TestValid(t *testing.T) {
	x := parsed(t, "a 1 1  ( )\na 2 1 x ( )\na 3 2  ( )\nb 1 1  ( x )\nc 1 1  ( !a=1 )\n")
	for i, c := range []struct {
		w    api.Wish
		l    []api.Member
		want bool
	}{
		// Targets: each by some member, one member may be what several ask.
		{api.Wish{}, nil, true},
		{api.Wish{Targets: named("a")}, nil, false},
		{api.Wish{Targets: named("a")}, set(member(0)), true},
		{api.Wish{Targets: named("a", "a")}, set(member(0)), true},
		{api.Wish{Targets: named("a", "c")}, set(member(4)), false},
		{api.Wish{Targets: named("c", "a")}, set(member(4)), false},
		{api.Wish{Targets: named("a", "c")}, set(member(2), member(4)), true},
		{api.Wish{Targets: named("nowhere")}, set(member(0)), false},
		{api.Wish{Targets: []api.Atom{{Name: "a", Flag: "x"}}}, set(member(1, off)), true},
		{api.Wish{Targets: []api.Atom{{Name: "a", Flag: "x"}}}, set(member(1, on)), false},
		{api.Wish{Targets: []api.Atom{{Name: "a", Flag: "x"}}}, set(member(0)), false},
		{api.Wish{Targets: []api.Atom{{Name: "a", Slot: 2}}}, set(member(1, on)), false},
		{api.Wish{Targets: []api.Atom{{Name: "a", Slot: 2}}}, set(member(1, on), member(2)), true},

		// What isn't asked for may be there all the same.
		{api.Wish{}, set(member(0)), true},
		{api.Wish{Targets: named("c")}, set(member(2), member(4)), true},

		// Masked: whatever is installed.
		{api.Wish{Masked: []int{0}}, set(member(0)), false},
		{api.Wish{Masked: []int{0}, Installed: set(member(0))}, set(member(0)), false},
		{api.Wish{Masked: []int{1, 2}}, set(member(0)), true},
		{api.Wish{Masked: []int{0, 4}}, set(member(2), member(4)), false},
		{api.Wish{Masked: []int{0, 1, 2, 3, 4}}, nil, true},

		// All needs.
		{api.Wish{}, set(member(3)), false},
		{api.Wish{}, set(member(0), member(3)), false},
		{api.Wish{}, set(member(0), member(4)), false},
		{api.Wish{}, set(member(1, on), member(4)), true},

		// One of a Name and Slot.
		{api.Wish{}, set(member(0), member(1, on)), false},
		{api.Wish{}, set(member(0), member(1, on), member(2)), false},
		{api.Wish{}, set(member(0), member(2)), true},
		{api.Wish{}, set(member(1, on), member(2)), true},
		{api.Wish{}, set(member(1, on), member(2), member(4)), true},

		// Neither what is installed nor which flags are wished on has a say.
		{api.Wish{Installed: set(member(0)), On: [][2]int{{1, 0}}}, set(member(1, off)), true},
		{api.Wish{Installed: set(member(0)), On: [][2]int{{1, 0}}}, nil, true},
		{api.Wish{Installed: set(member(0), member(1, on), member(3))}, set(member(2)), true},
	} {
		if got, e := Valid(x, c.w, c.l); got != c.want || e != api.OK {
			t.Errorf("%d: %v, %d", i, got, e)
		}
	}
	if got, e := Valid(api.Tree{}, api.Wish{}, nil); !got || e != api.OK {
		t.Errorf("nothing, as wished: %v, %d", got, e)
	}
}

// TestSlotsApart: two of a Name and Slot are found wherever they stand.
func TestSlotsApart(t *testing.T) {
	x := parsed(t, "a 1 1  ( )\na 2 2  ( )\na 3 1  ( )\na 4 3  ( )\nb 1 1  ( )\n")
	for i, c := range []struct {
		l    []api.Member
		want bool
	}{
		{set(member(0), member(2)), false},
		{set(member(0), member(1), member(2)), false},
		{set(member(0), member(1), member(3), member(4)), true},
		{set(member(1), member(2), member(3), member(4)), true},
		{set(member(0), member(1), member(2), member(3), member(4)), false},
	} {
		if got, e := Valid(x, api.Wish{}, c.l); got != c.want || e != api.OK {
			t.Errorf("%d: %v, %d", i, got, e)
		}
	}
}

// TestOnlyRead: neither lists that are handed in nor the room behind them are changed.
func TestOnlyRead(t *testing.T) {
	type given struct {
		x api.Tree
		w api.Wish
		l []api.Member
	}
	lay := func() given {
		x := parsed(t, "a 1 1 x,y ( x? ( b !c ) || ( c b ) )\nb 1 1 x ( )\nc 1 1  ( )\n")
		return given{x, api.Wish{
			Targets:   named("b", "a", "behind"),
			Installed: set(member(0, on, off), member(2), member(9)),
			Masked:    []int{2, 0},
			On:        [][2]int{{0, 1}, {1, 0}, {0, 0}},
		}, set(member(0, on, off), member(1, off), member(7))}
	}
	g := lay()
	w := api.Wish{Targets: g.w.Targets[:2], Installed: g.w.Installed[:2], Masked: g.w.Masked[:1], On: g.w.On[:2]}
	for range 2 {
		if e := CheckWish(g.x, w); e != api.OK {
			t.Errorf("CheckWish: %d", e)
		}
		if got, e := Holds(g.x, g.l[:2], 0); !got || e != api.OK {
			t.Errorf("Holds: %v, %d", got, e)
		}
		if got, e := Valid(g.x, w, g.l[:2]); !got || e != api.OK {
			t.Errorf("Valid: %v, %d", got, e)
		}
	}
	if !reflect.DeepEqual(g, lay()) {
		t.Errorf("changed: %+v", g)
	}
}
