package build

import (
	"slices"

	"holloway/api"
	"holloway/op"
)

// unnamed is the number of an exit that no instruction names yet.
const unnamed = -1

// path is a trace that is made, step by step.
type path struct {
	made        api.Trace
	stack, back []int   // the places of the values that lie there, the deepest first
	here        api.Out // the exit ahead of the step that is made
	named       int     // its number
}

// begin lays what the trace takes.
func (p *path) begin() {
	for depth := p.made.Slots - 1; depth >= 0; depth-- {
		p.lay(p.add(api.Ins{Op: api.Slot, A: depth}))
	}
	for depth := p.made.Backs - 1; depth >= 0; depth-- {
		p.layBack(p.add(api.Ins{Op: api.Behind, A: depth}))
	}
}

// reach comes to a place behind so many steps: guards leave there from now on.
func (p *path) reach(ip, steps int) {
	p.here, p.named = p.out(ip, steps), unnamed
}

// do makes the instructions of a step.
func (p *path) do(x api.Seen) {
	if called(x) {
		p.layBack(p.number(behind(x)))
		return
	}
	took := p.take(op.Takes(x.Cell))
	switch x.Cell {
	case api.Nop, api.Branch, api.Drop, api.Unloop:
		// They take what they take: no value comes of it, and nothing has to hold.
	case api.Lit:
		p.lay(p.number(x.Arg))
	case api.Dup, api.Swap, api.Copy, api.Rot, api.ToBack, api.FromBack, api.AtBack, api.Do, api.J:
		p.move(x.Cell, took)
	case api.Fetch, api.Store, api.AddTo:
		p.remember(x, took)
	case api.Emit, api.Dot, api.Key:
		p.talk(x.Cell, took)
	case api.Zero:
		p.choose(x, took[0])
	case api.Loop, api.PlusLoop:
		p.loop(x, took)
	case api.Exit, api.Execute:
		p.turn(x, took[0])
	default:
		p.lay(p.calc(x.Cell, took...))
	}
}

// move lays what was taken elsewhere, or twice.
func (p *path) move(o int, took []int) {
	switch o {
	case api.Rot:
		p.lay(took[1:]...)
		p.lay(took[0])
	case api.Copy:
		p.lay(took[0])
		fallthrough
	case api.Swap:
		p.lay(took[1], took[0])
	case api.Dup:
		p.lay(took[0], took[0])
	case api.AtBack, api.J:
		p.layBack(took...)
		fallthrough
	case api.FromBack:
		p.lay(took[0])
	case api.ToBack, api.Do:
		p.layBack(took...)
	}
}

// remember asks the memory, or changes it.
func (p *path) remember(x api.Seen, took []int) {
	v, a := took[0], took[len(took)-1]
	switch x.Cell {
	case api.Fetch:
		p.lay(p.load(a))
	case api.AddTo:
		v = p.calc(api.Add, p.load(a), v)
		fallthrough
	case api.Store:
		hit := p.leave(p.out(x.Next, p.here.Steps+1))
		p.add(api.Ins{Op: api.Put, A: hit, B: a, C: v, X: p.exit()})
	}
}

// talk tells a byte, or a number, or asks for a byte.
func (p *path) talk(o int, took []int) {
	switch o {
	case api.Emit:
		p.add(api.Ins{Op: api.Say, B: took[0], X: p.exit()})
	case api.Dot:
		p.add(api.Ins{Op: api.Tell, B: took[0], X: p.exit()})
	case api.Key:
		p.lay(p.add(api.Ins{Op: api.Ask}))
	}
}

// choose holds a branch to the way that it took; where both ways lead to one place nothing is asked.
func (p *path) choose(x api.Seen, v int) {
	switch {
	case x.Arg == behind(x):
		return
	case x.Next == x.Arg:
		p.guard(api.MustNot, v)
	default:
		p.guard(api.Must, v)
	}
}

// loop holds a loop to the way that it took: round, or to its end.
func (p *path) loop(x api.Seen, took []int) {
	limit, index := took[len(took)-2], took[len(took)-1]
	var next, ends int
	switch x.Cell {
	case api.Loop:
		next = p.calc(api.Add, index, p.number(1))
		ends = p.calc(api.Equal, next, limit)
	case api.PlusLoop:
		next = p.calc(api.Add, index, took[0])
		ends = p.crosses(p.calc(api.Sub, index, limit), took[0])
	}
	if round(x) {
		p.guard(api.MustNot, ends)
		p.layBack(limit, next)
		return
	}
	p.guard(api.Must, ends)
}

// crosses reckons as cell.Crosses does.
func (p *path) crosses(x, n int) int {
	turned := p.calc(api.Xor, x, p.calc(api.Add, x, n))
	both := p.calc(api.And, turned, p.calc(api.Xor, x, n))
	return p.calc(api.IsNeg, both)
}

// turn holds a step to the place where it led.
func (p *path) turn(x api.Seen, to int) {
	switch x.Cell {
	case api.Execute:
		// Cells of the trace are there whenever it is run; of any other one that has to be asked.
		if !slices.Contains(p.made.Cells, x.Next) {
			p.load(to)
		}
		p.layBack(p.number(behind(x)))
		fallthrough
	case api.Exit:
		p.add(api.Ins{Op: api.Same, B: to, C: p.number(x.Next), X: p.exit()})
	}
}

// calc makes an operation of one value, or of two; what can't be done leaves the trace.
func (p *path) calc(o int, of ...int) int {
	i := api.Ins{Op: api.Calc, A: o}
	switch o {
	case api.Div, api.Mod:
		i.X = p.exit()
		fallthrough
	case api.Add, api.Sub, api.Mul, api.And, api.Or, api.Xor, api.Left, api.Right,
		api.Equal, api.Less, api.ULess, api.Min, api.Max:
		i.C = of[1]
		fallthrough
	default:
		i.B = of[0]
	}
	return p.add(i)
}

// guard makes a guard of a value.
func (p *path) guard(must, v int) { p.add(api.Ins{Op: must, B: v, X: p.exit()}) }

// load asks a cell; where there is none the trace is left.
func (p *path) load(a int) int { return p.add(api.Ins{Op: api.Load, B: a, X: p.exit()}) }

// number makes a number that is known.
func (p *path) number(n int) int { return p.add(api.Ins{Op: api.Const, A: n}) }

// add adds an instruction: its place.
func (p *path) add(i api.Ins) int {
	p.made.Ins = append(p.made.Ins, i)
	return len(p.made.Ins) - 1
}

// exit names the exit ahead of the step that is made: its number.
func (p *path) exit() int {
	if p.named == unnamed {
		p.named = p.leave(p.here)
	}
	return p.named
}

// leave adds an exit: its number.
func (p *path) leave(x api.Out) int {
	p.made.Outs = append(p.made.Outs, x)
	return len(p.made.Outs) - 1
}

// out tells the exit to a place behind so many steps, with what lies on the stacks now.
func (p *path) out(ip, steps int) api.Out {
	return api.Out{Ip: ip, Steps: steps, Stack: slices.Clone(p.stack), Back: slices.Clone(p.back)}
}

// take takes so many values from both stacks: those of the stack first, the deepest ahead of the others.
func (p *path) take(stack, back int) []int {
	low, lowBack := len(p.stack)-stack, len(p.back)-back
	took := slices.Concat(p.stack[low:], p.back[lowBack:])
	p.stack, p.back = p.stack[:low], p.back[:lowBack]
	return took
}

// lay lays values onto the stack.
func (p *path) lay(places ...int) { p.stack = append(p.stack, places...) }

// layBack lays values onto the return stack.
func (p *path) layBack(places ...int) { p.back = append(p.back, places...) }
