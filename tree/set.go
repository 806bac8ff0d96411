package tree

import (
	"slices"

	"quartermaster/api"
)

// CheckSet: what is wrong with l as a set of packages of t?
func CheckSet(t api.Tree, l []api.Member) api.Errno {
	if e := Check(t); e != api.OK {
		return e
	}
	return oneByOne(len(l), func(k int) api.Errno {
		place := l[k].Place
		switch {
		case place < 0, place >= len(t.Packages):
			return api.ErrWho
		case k > 0 && place <= l[k-1].Place:
			return api.ErrTwice
		case len(l[k].On) != len(t.Packages[place].Flags):
			return api.ErrForm
		}
		return api.OK
	})
}

// SameSet: are a and b alike? CheckSet has no say in it.
func SameSet(a, b []api.Member) bool { return slices.EqualFunc(a, b, sameMember) }

func sameMember(a, b api.Member) bool { return a.Place == b.Place && slices.Equal(a.On, b.On) }
