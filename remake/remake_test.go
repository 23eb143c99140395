package remake_test

import (
	"math"
	"slices"
	"testing"

	"holloway/api"
	"holloway/ir"
	"holloway/remake"
)

// wild are places that aren't there.
var wild = []int{math.MinInt, -2, -1, 4, 5, 1000, math.MaxInt}

func nums(l ...int) []int { return l }

// trace makes one, of which one list is used twice.
func trace() api.Trace {
	one := nums(0, 1, 2)
	return api.Trace{
		Start: 1, Slots: 2, Backs: 3, Grow: 4, GrowBack: 5, Last: 1,
		Ins:   []api.Ins{{Op: api.Const, A: 1}, {Op: api.Ask}},
		Outs:  []api.Out{{Ip: 6, Steps: 7, Stack: one[:2], Back: one[:2]}, {Ip: 8, Stack: one}},
		Cells: nums(3, 9),
	}
}

// A copy is alike, and nothing that is done to one of both is seen in the other one.
func TestCopy(t *testing.T) {
	if !ir.Same(remake.Copy(api.Trace{}), api.Trace{}) {
		t.Error("Copy of a zero trace")
	}
	a := trace()
	b := remake.Copy(a)
	if !ir.Same(a, b) || !ir.Same(a, trace()) {
		t.Errorf("Copy: %+v of %+v", b, a)
	}
	b.Outs[0].Stack[0] = 50
	if b.Outs[0].Back[0] != 0 || b.Outs[1].Stack[0] != 0 {
		t.Errorf("two lists are one: %+v", b)
	}
	b.Outs[0].Back[0], b.Outs[1].Stack[2], b.Outs[1].Ip, b.Ins[0].A, b.Cells[0] = 50, 50, 50, 50, 50
	if !ir.Same(a, trace()) {
		t.Errorf("what was copied: %+v", a)
	}
}

// An instruction names the places where things went, by B, and by C if it names two; nothing else of it moves.
func TestIns(t *testing.T) {
	places := nums(40, 41, 42, 43)
	for op := range 14 {
		for a := range api.Ops {
			i := api.Ins{Op: op, A: a, B: 3, C: 1, X: 2}
			want := i
			used := ir.Uses(i)
			if len(used) > 0 {
				want.B = 43
			}
			if len(used) > 1 {
				want.C = 41
			}
			if got := remake.Ins(i, places); got != want {
				t.Errorf("Ins of %v: %v, not %v", i, got, want)
			}
		}
	}
	for _, p := range wild {
		i := api.Ins{Op: api.Put, B: p, C: p}
		if got := remake.Ins(i, places); got != i {
			t.Errorf("Ins of %v: %v", i, got)
		}
	}
}

// Exits name the places where things went, in both lists; places that aren't there stay.
func TestOuts(t *testing.T) {
	outs := []api.Out{{Ip: 1, Steps: 2, Stack: nums(3, 0, 3), Back: nums(1)}, {Ip: 2}, {Stack: slices.Clone(wild), Back: append(nums(2), wild...)}}
	remake.Outs(outs, nums(40, 41, 42, 43))
	for k, want := range [][2][]int{{nums(43, 40, 43), nums(41)}, {}, {wild, append(nums(42), wild...)}} {
		if !slices.Equal(outs[k].Stack, want[0]) || !slices.Equal(outs[k].Back, want[1]) {
			t.Errorf("exit %d: %+v, not %v", k, outs[k], want)
		}
	}
	if outs[0].Ip != 1 || outs[0].Steps != 2 || outs[1].Ip != 2 {
		t.Errorf("what is no place: %+v", outs)
	}
}
