package asked

import (
	"testing"

	"quartermaster/api"
	"quartermaster/atom"
)

// TestIs: name, version, slot and flag must all be right; a flag that the package doesn't have is neither on nor off.
func TestIs(t *testing.T) {
	p := api.Package{Name: "a", Version: 2, Slot: 1, Flags: []string{"x", "y"}}
	m := api.Member{On: []bool{true, false}}
	for text, want := range map[string]bool{
		"a": true, "b": false, "aa": false,
		"a=2": true, "a=1": false, "a>=2": true, "a>=3": false, "a<3": true, "a<2": false,
		"a:1": true, "a:2": false,
		"a+x": true, "a-x": false, "a+y": false, "a-y": true, "a+z": false, "a-z": false,
		"a>=1:1-y": true, "b>=1:1-y": false, "a>=3:1-y": false, "a>=1:2-y": false, "a>=1:1+y": false,
	} {
		a, e := atom.Parse(text)
		if e != api.OK {
			t.Fatal(text, e)
		}
		if got := Is(p, m, a); got != want {
			t.Errorf("%s: %v", text, got)
		}
	}
}
