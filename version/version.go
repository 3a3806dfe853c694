// Package version is layer 26: see shared/doc/26-version.md.
package version

import "sealring/api"

// Of: P26.1.
func Of(v int) (api.Rules, api.Errno) {
	if v < 1 || v > api.Versions {
		return api.Rules{}, api.ErrVersion
	}
	return api.Rules{
		Own:      v <= 2,
		Pairs:    v <= 2,
		URL:      v >= 4,
		Aliases:  v <= 5,
		Allow:    v >= 8,
		Authored: v >= 9,
		Modern:   v >= 11,
	}, api.OK
}

// Alike: P26.2.
func Alike(l ...int) bool {
	likeFirst := func(v int) bool {
		first, _ := Of(l[0])
		r, e := Of(v)
		return e == api.OK && r == first
	}
	for _, v := range l {
		if !likeFirst(v) {
			return false
		}
	}
	return true
}
