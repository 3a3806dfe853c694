package version_test

import (
	"math"
	"testing"

	"sealring/api"
	"sealring/version"
)

// table is what is true of each version, from 1 on.
var table = []api.Rules{
	{Own: true, Pairs: true, Aliases: true},
	{Own: true, Pairs: true, Aliases: true},
	{Aliases: true},
	{URL: true, Aliases: true},
	{URL: true, Aliases: true},
	{URL: true},
	{URL: true},
	{URL: true, Allow: true},
	{URL: true, Allow: true, Authored: true},
	{URL: true, Allow: true, Authored: true},
	{URL: true, Allow: true, Authored: true, Modern: true},
}

var none = []int{0, -1, -11, 12, 13, 100, math.MinInt, math.MaxInt}

func TestP26_1Of(t *testing.T) {
	if len(table) != api.Versions {
		t.Fatal(len(table))
	}
	for i, want := range table {
		if got, e := version.Of(i + 1); got != want || e != api.OK {
			t.Errorf("Of(%d): %+v, %d", i+1, got, e)
		}
	}
	for _, v := range none {
		if got, e := version.Of(v); got != (api.Rules{}) || e != api.ErrVersion {
			t.Errorf("Of(%d): %+v, %d", v, got, e)
		}
	}
}

func TestP26_2Alike(t *testing.T) {
	if !version.Alike() || !version.Alike([]int{}...) {
		t.Error("of none")
	}
	for v := 1; v <= api.Versions; v++ {
		if !version.Alike(v) || !version.Alike(v, v, v) {
			t.Errorf("%d isn't like itself", v)
		}
		for w := 1; w <= api.Versions; w++ {
			want := table[v-1] == table[w-1]
			if version.Alike(v, w) != want || version.Alike(v, v, w) != want || version.Alike(v, w, v) != want {
				t.Errorf("Alike of %d and %d isn't %v", v, w, want)
			}
		}
		for _, w := range none {
			if version.Alike(v, w) || version.Alike(w, v) || version.Alike(v, w, v) {
				t.Errorf("%d is like %d", v, w)
			}
		}
	}
	for _, v := range none {
		if version.Alike(v) || version.Alike(v, v) || version.Alike(0, v) {
			t.Errorf("%d is like itself", v)
		}
	}
	if !version.Alike(4, 5) || version.Alike(3, 4) || !version.Alike(9, 10) || version.Alike(4, 5, 6) || !version.Alike(1, 2, 1, 2) {
		t.Error("by hand")
	}
}

func TestP26_3WhatIsTrueStaysSo(t *testing.T) {
	var old api.Rules
	for v := 1; v <= api.Versions; v++ {
		r, _ := version.Of(v)
		if old.URL && !r.URL || old.Allow && !r.Allow || old.Authored && !r.Authored || old.Modern && !r.Modern {
			t.Errorf("%d hasn't what the one ahead of it has", v)
		}
		if v > 1 && (r.Own && !old.Own || r.Pairs && !old.Pairs || r.Aliases && !old.Aliases) {
			t.Errorf("%d has again what the one ahead of it hasn't", v)
		}
		old = r
	}
}

func TestP7EveryCallEnds(t *testing.T) {
	for i := range 64 {
		for _, v := range []int{1 << i, 1<<i - 1, -1 << i, -1<<i + 1} {
			version.Of(v)
			version.Alike(v, -v)
			version.Alike(4, v, 5)
		}
	}
	version.Alike(nil...)
}
