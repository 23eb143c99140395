package build_test

import (
	"slices"
	"testing"

	"holloway/api"
	"holloway/build"
	"holloway/eval"
	"holloway/inner"
	"holloway/ir"
	"holloway/record"
)

// drawer draws numbers, the same ones each time.
type drawer uint

func (d *drawer) below(n int) int {
	*d = *d*6364136223846793005 + 1442695040888963407
	return int(uint(*d)>>33) % n
}

// of draws one of a list.
func (d *drawer) of(l ...int) int { return l[d.below(len(l))] }

// place draws a place in the code of these machines.
func (d *drawer) place() int { return code + d.below(24) }

// cell draws a number: a small one, a place of the code, or of what is beside it, or one at which something turns.
func (d *drawer) cell() int {
	switch d.below(12) {
	case 0:
		return d.of(edges()...)
	case 1, 2:
		return d.place()
	case 3, 4:
		return 300 + d.below(8)
	}
	return d.below(8) - 3
}

func (d *drawer) cells(n int) []int {
	l := make([]int, n)
	for k := range l {
		l[k] = d.cell()
	}
	return l
}

// op draws an operation: one that lays cells often enough for those that take them.
func (d *drawer) op() int {
	switch d.below(8) {
	case 0, 1:
		return d.of(api.Lit, api.Lit, api.Dup, api.Copy, api.Key, api.AtBack, api.J, api.FromBack)
	case 2:
		return d.of(api.Loop, api.PlusLoop, api.Zero, api.Branch, api.Do, api.Exit, api.ToBack, api.Execute)
	case 3:
		return d.of(api.Store, api.AddTo, api.Fetch, api.Dot, api.Emit)
	case 4:
		return d.place()
	}
	return d.below(api.Ops)
}

// machine draws one whose code is drawn, with stacks of all heights.
func (d *drawer) machine() api.State {
	s := machine(d.cells(d.of(2, 6, 12, 12, 46, d.below(49))), d.cells(d.of(2, 5, 9, 45, d.below(49))))
	for a := code; a < code+24; a++ {
		s.Mem[a] = d.op()
		switch s.Mem[a] {
		case api.Lit:
			a++
			s.Mem[a] = d.cell()
		case api.Zero, api.Branch, api.Loop, api.PlusLoop:
			a++
			s.Mem[a] = d.place()
		}
	}
	if d.below(3) > 0 {
		s.Mem[code+20], s.Mem[code+21] = api.Branch, code
	}
	s.In, s.Out = "ab\x00\xffcd"[:d.below(7)], full(d.of(0, 1, 3, 9, 2000, 2000))
	s.Read = d.below(len(s.In) + 1)
	return s
}

// spoil draws a machine that is nearly the same: with cells of the stacks, of what is beside the code, of the talk changed.
func (d *drawer) spoil(s api.State) api.State {
	s = inner.Copy(s)
	for range d.below(3) {
		if n := len(s.Stack); n > 0 {
			s.Stack[n-1-d.below(min(n, 4))] = d.cell()
		}
		if n := len(s.Back); n > 0 {
			s.Back[n-1-d.below(min(n, 3))] = d.cell()
		}
	}
	switch d.below(7) {
	case 0:
		s.Out = full(d.of(0, 1, 2, 3, 5, 8))
	case 1:
		s.Read, s.In = 0, "zyx"[:d.below(4)]
	case 2:
		s.Stack = append(d.cells(d.below(30)), s.Stack...)
	case 3:
		s.Back = append(d.cells(d.below(30)), s.Back...)
	case 4:
		s.Mem[300+d.below(8)] = d.cell()
	case 5:
		s.Handler, s.Code = d.below(5), -d.below(5)
	case 6:
		s.Mem = s.Mem[:d.of(300, 303, code+26)]
	}
	return s
}

// counted are how often something was seen.
type counted map[string]int

func (c counted) expect(t *testing.T, least int, what ...string) {
	t.Helper()
	for _, w := range what {
		if c[w] < least {
			t.Errorf("%s: %d times", w, c[w])
		}
	}
}

// note notes how a run came out.
func (c counted) note(r api.Recording, steps int, hit bool) {
	switch {
	case hit && steps == len(r.Steps):
		c["hit by the last"]++
	case hit:
		c["hit"]++
	case steps == len(r.Steps):
		c["whole"]++
	case steps == 0:
		c["none"]++
	default:
		c["left"]++
	}
}

// plain tells whether it is plain of each loop of a recording which way it took.
func plain(r api.Recording) bool {
	return !slices.ContainsFunc(r.Steps, func(x api.Seen) bool {
		return (x.Cell == api.Loop || x.Cell == api.PlusLoop) && x.Arg == x.Ip+2
	})
}

// P1601, P1602: drawn machines: what was recorded of one is run by it, and by others of the same code.
func TestDrawnMachines(t *testing.T) {
	seen := counted{}
	for seed := range 8_000 {
		d := drawer(seed)
		s := d.machine()
		r := record.Loop(s, d.of(2, 9, 30, 120))
		x, is := build.Trace(r)
		expect(t, "is", is, len(r.Steps) > 0)
		if !is {
			continue
		}
		if !ir.Right(x) {
			t.Fatalf("%v: %v", r, x)
		}
		own := slices.Clone(s.Mem)
		if !lay(&s, r) {
			// It stored into its own code: no machine has the cells that it had.
			seen["of two minds"]++
			continue
		}
		if !slices.Equal(own, s.Mem) {
			seen["stored ahead of itself"]++
		}
		if len(r.Steps) > 20 {
			seen["long"]++
		}
		for n := range 8 {
			more := d.cells(d.below(4))
			other := s
			if n > 0 {
				other = d.spoil(s)
			}
			if !eval.May(x, other) {
				seen["may not"]++
				continue
			}
			steps, hit := expectRun(t, r, other, more...)
			if n == 0 && !hit && steps != len(r.Steps) && slices.Equal(own, s.Mem) && plain(r) {
				t.Errorf("%v: %d steps of the machine itself", r.Steps, steps)
			}
			seen.note(r, steps, hit)
		}
		if t.Failed() {
			t.Fatalf("of %s, drawn by %d", text(s), seed)
		}
	}
	seen.expect(t, 100, "may not", "whole", "none", "left", "hit", "long")
	seen.expect(t, 5, "hit by the last", "of two minds", "stored ahead of itself")
}

// P1601: what is needed is just enough: with one cell less, or with room for one less, not all steps are done.
func TestDrawnNeeds(t *testing.T) {
	seen := counted{}
	for seed := range 4_000 {
		d := drawer(seed)
		s := d.machine()
		r := record.Loop(s, d.of(2, 9, 30, 120))
		if held := inner.Copy(s); len(r.Steps) == 0 || !lay(&held, r) || !plain(r) {
			continue
		}
		slots, grow, backs, growBack := build.Needs(r)
		whole := func(stack, back []int) bool {
			other := inner.Copy(s)
			other.Stack, other.Back = stack, back
			return slices.Equal(record.Loop(other, len(r.Steps)).Steps, r.Steps)
		}
		expect(t, "just enough cells", whole(tail(s.Stack, slots), tail(s.Back, backs)), true)
		expect(t, "just enough room", whole(tail(s.Stack, 48-grow), tail(s.Back, 48-growBack)), true)
		if slots > 0 {
			expect(t, "a cell less", whole(tail(s.Stack, slots-1), s.Back), false)
			seen["slots"]++
		}
		if backs > 0 {
			expect(t, "a cell of Back less", whole(s.Stack, tail(s.Back, backs-1)), false)
			seen["backs"]++
		}
		if grow > 0 {
			expect(t, "room for one less", whole(tail(s.Stack, 48-grow+1), s.Back), false)
			seen["grow"]++
		}
		if growBack > 0 {
			expect(t, "room on Back for one less", whole(s.Stack, tail(s.Back, 48-growBack+1)), false)
			seen["growBack"]++
		}
		if t.Failed() {
			t.Fatalf("of %s, drawn by %d: %v", text(s), seed, r.Steps)
		}
	}
	seen.expect(t, 300, "slots", "backs", "grow", "growBack")
}

// tail tells the topmost cells of a list, so many; with others beneath, where there are fewer.
func tail(l []int, n int) []int {
	if len(l) >= n {
		return slices.Clone(l[len(l)-n:])
	}
	return append(times(n-len(l), 55), l...)
}

// recording draws one that is right, whose steps lead where they can, or elsewhere.
func (d *drawer) recording() api.Recording {
	r := api.Recording{Start: d.place()}
	at := r.Start
	few := nums(d.below(api.Ops), d.below(api.Ops), d.below(api.Ops))
	for range 1 + d.below(d.of(3, 12, 120, 120)) {
		x := api.Seen{Ip: at, Cell: d.op()}
		if d.below(3) > 0 {
			x.Cell = d.of(few...)
		}
		x.Next = at + 1
		switch x.Cell {
		case api.Halt, api.EndCatch, api.Throw, api.Catch:
			x.Cell = api.Nop
		case api.Lit:
			x.Arg, x.Next = d.cell(), at+2
		case api.Zero, api.Branch, api.Loop, api.PlusLoop:
			x.Arg = d.of(d.place(), d.place(), at+2)
			x.Next = d.of(at+2, x.Arg, x.Arg)
		case api.Exit, api.Execute:
			x.Next = d.place()
		}
		if x.Cell >= api.First {
			x.Next = x.Cell
		}
		if d.below(60) == 0 {
			x.Next = d.place()
		}
		r.Steps = append(r.Steps, x)
		at = x.Next
		if at == r.Start {
			break
		}
	}
	r.End, r.Loop = at, at == r.Start
	return r
}

// needs tells what a recording needs, by the heights of both stacks ahead of each step and behind it.
func needs(r api.Recording) [4]int {
	table := effects()
	var l [4]int
	for k := range 2 {
		height := 0
		var ahead, most []int
		for _, x := range r.Steps {
			e := table[x.Cell]
			switch {
			case x.Cell >= 64:
				e = [4]int{0, 0, 0, 1}
			case (x.Cell == api.Loop || x.Cell == api.PlusLoop) && x.Next != x.Arg:
				e[3] = 0
			}
			ahead = append(ahead, e[2*k]-height)
			height += e[2*k+1] - e[2*k]
			most = append(most, height)
		}
		l[2*k], l[2*k+1] = max(0, slices.Max(ahead)), max(0, slices.Max(most))
	}
	return l
}

// P1601, P1602: drawn recordings, also such as no machine makes, run by machines of their code.
func TestDrawnRecordings(t *testing.T) {
	seen := counted{}
	for seed := range 12_000 {
		d := drawer(seed)
		r := d.recording()
		if !record.Right(r) {
			t.Fatalf("%v isn't right", r)
		}
		want := needs(r)
		expectNeeds(t, "drawn", r, want[0], want[1], want[2], want[3])
		if slices.Max(want[:]) > 48 {
			seen["too much"]++
			continue
		}
		s := d.machine()
		if !lay(&s, r) {
			seen["of two minds"]++
			continue
		}
		for range 6 {
			s.Stack, s.Back = d.cells(min(want[0]+d.of(0, 1, 2, 30), 48)), d.cells(min(want[2]+d.of(0, 1, 2, 30), 48))
			if !eval.May(made(t, r), s) {
				seen["may not"]++
				continue
			}
			steps, hit := expectRun(t, r, s, d.cells(d.below(3))...)
			seen.note(r, steps, hit)
		}
		if t.Failed() {
			t.Fatalf("%v, drawn by %d", r, seed)
		}
	}
	seen.expect(t, 100, "too much", "of two minds", "whole", "none", "left", "hit")
	seen.expect(t, 20, "may not")
}

// Nothing panics, and all ends: recordings in which some numbers are changed.
func TestDrawnWrong(t *testing.T) {
	refused := 0
	numbers := append(edges(), 2998, 2999, 3000, 3001, code+1, code+2, api.Loop, api.Execute)
	for seed := range 20_000 {
		d := drawer(seed)
		r := d.recording()
		for range 1 + d.below(3) {
			x := &r.Steps[d.below(len(r.Steps))]
			*[]*int{&x.Ip, &x.Cell, &x.Arg, &x.Next, &r.Start, &r.End}[d.below(6)] = d.of(numbers...)
		}
		a, b, c, e := build.Needs(r)
		x, is := build.Trace(r)
		switch {
		case is:
			expect(t, "Right", ir.Right(x) && record.Right(r), true)
		case !record.Right(r):
			refused++
			expect(t, "needs", [4]int{a, b, c, e}, [4]int{})
			fallthrough
		default:
			expect(t, "nothing", ir.Same(x, api.Trace{}), true)
		}
	}
	if refused < 5_000 {
		t.Errorf("%d are refused", refused)
	}
}
