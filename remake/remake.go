// Package remake helps to make traces anew, for those that leave out some of their instructions. It is no layer: the passes lean on it.
package remake

import (
	"slices"

	"holloway/api"
	"holloway/ir"
)

// Copy makes another trace that is the same, and shares nothing with it.
func Copy(t api.Trace) api.Trace {
	t.Ins, t.Outs, t.Cells = slices.Clone(t.Ins), slices.Clone(t.Outs), slices.Clone(t.Cells)
	for k := range t.Outs {
		x := &t.Outs[k]
		x.Stack, x.Back = slices.Clone(x.Stack), slices.Clone(x.Back)
	}
	return t
}

// Ins tells an instruction whose places are where they went; what it names no place by stays, whatever it is.
func Ins(i api.Ins, places []int) api.Ins {
	switch len(ir.Uses(i)) {
	case 2:
		i.C = went(i.C, places)
		fallthrough
	case 1:
		i.B = went(i.B, places)
	}
	return i
}

// Outs sets the places of exits to where they went.
func Outs(outs []api.Out, places []int) {
	for _, x := range outs {
		move(x.Stack, places)
		move(x.Back, places)
	}
}

// move sets places to where they went.
func move(l, places []int) {
	for k, p := range l {
		l[k] = went(p, places)
	}
}

// went tells where a place went. An exit that nobody names may tell of places that aren't there: they stay.
func went(p int, places []int) int {
	if p < 0 || p >= len(places) {
		return p
	}
	return places[p]
}
