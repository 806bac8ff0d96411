package valid

import (
	"quartermaster/api"
	"quartermaster/atom"
	"quartermaster/tree"
)

// CheckWish: what is wrong with w as a wish for packages of t?
func CheckWish(t api.Tree, w api.Wish) api.Errno {
	if e := tree.CheckSet(t, w.Installed); e != api.OK {
		return e
	}
	if e := checkTargets(w.Targets); e != api.OK {
		return e
	}
	if e := checkMasked(t, w.Masked); e != api.OK {
		return e
	}
	return checkOn(t, w.On)
}

func checkTargets(targets []api.Atom) api.Errno {
	if len(targets) > api.MaxTargets {
		return api.ErrMany
	}
	for _, a := range targets {
		if e := atom.Check(a); e != api.OK {
			return e
		}
	}
	return api.OK
}

func checkMasked(t api.Tree, masked []int) api.Errno {
	for k, place := range masked {
		switch {
		case place < 0, place >= len(t.Packages):
			return api.ErrWho
		case k > 0 && place <= masked[k-1]:
			return api.ErrTwice
		}
	}
	return api.OK
}

func checkOn(t api.Tree, on [][2]int) api.Errno {
	for k, pair := range on {
		place, flag := pair[0], pair[1]
		switch {
		case place < 0, place >= len(t.Packages):
			return api.ErrWho
		case flag < 0, flag >= len(t.Packages[place].Flags):
			return api.ErrWho
		case k > 0 && !standsBehind(pair, on[k-1]):
			return api.ErrTwice
		}
	}
	return api.OK
}

// standsBehind: does pair come behind ahead, by package, then by flag?
func standsBehind(pair, ahead [2]int) bool {
	if pair[0] != ahead[0] {
		return pair[0] > ahead[0]
	}
	return pair[1] > ahead[1]
}
