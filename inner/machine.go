package inner

import (
	"holloway/api"
	"holloway/fault"
	"holloway/field"
	"holloway/op"
	"holloway/pile"
)

// Cells of the memory to which words come back.
const (
	halt   = 0 // from what was entered
	caught = 1 // from what a Catch ran
)

// frame is how many cells a Catch lays below its handler: where it goes on, the handler ahead of it, and how many
// cells were on the stack.
const frame = 3

// machine is a state that is worked on.
type machine struct {
	rest        api.State // of which all counts but its lists: those lie in the others
	stack, back *pile.Pile
	mem         *field.Field
}

// open makes a machine of a state.
func open(s api.State) *machine {
	return &machine{
		rest:  s,
		stack: pile.New(api.MaxStack, s.Stack...),
		back:  pile.New(api.MaxBack, s.Back...),
		mem:   field.Of(s.Mem...),
	}
}

// state tells the machine as a state.
func (m *machine) state() api.State {
	s := m.rest
	s.Stack, s.Back, s.Mem = m.stack.All(), m.back.All(), m.mem.All()
	return s
}

// step does a step; where it can't be done, that is a fault.
func (m *machine) step() {
	if err := m.try(); err != nil {
		m.fault(fault.Code(err))
	}
}

// try does what the cell at Ip says, or tells why it can't be done.
func (m *machine) try() error {
	at := m.rest.Ip
	c, is := m.mem.Load(at)
	arg, has := m.mem.Load(at + 1)
	switch {
	case !is, op.Arg(c) && !has:
		return fault.New(api.NoAddress, at)
	case c >= api.First:
		return m.call(c)
	case !op.Right(c):
		return fault.New(api.NoWord, at)
	}
	x := &step{op: c, arg: arg, at: at, next: at + 1}
	if op.Arg(c) {
		x.next++
	}
	return fault.Wrap(m.operate(x), op.Name(c))
}

// call runs a word that is a cell of the code itself.
func (m *machine) call(xt int) error {
	at := m.rest.Ip
	if !m.back.Push(at + 1) {
		return fault.New(api.BackOver, at)
	}
	m.rest.Ip = xt
	return nil
}

// operate does an operation. What it takes is looked at ahead, and goes when nothing can stand in its way any more:
// so a fault finds all as it was.
func (m *machine) operate(x *step) error {
	stack, back := op.Takes(x.op)
	if code := m.lack(x.op); code != 0 {
		return x.fault(code)
	}
	x.took = cells{stack: top(m.stack, stack), back: top(m.back, back)}
	if err := m.do(x); err != nil {
		return err
	}
	m.stack.Cut(m.stack.Len() - stack)
	m.stack.Push(x.gives.stack...)
	m.back.Cut(m.back.Len() - back)
	m.back.Push(x.gives.back...)
	m.rest.Ip = x.next
	return nil
}

// lack tells the code of what an operation lacks on the stacks, cells or room; 0, if nothing.
func (m *machine) lack(o int) int {
	takes, takesBack := op.Takes(o)
	gives, givesBack := op.Gives(o)
	left, leftBack := m.stack.Len()-takes, m.back.Len()-takesBack
	switch {
	case left < 0:
		return api.Under
	case leftBack < 0:
		return api.BackUnder
	case left+gives > api.MaxStack:
		return api.Over
	case leftBack+givesBack > api.MaxBack:
		return api.BackOver
	}
	return 0
}

// fault goes on behind the Catch that is the nearest one, if its cells lie where they should; else the machine is thrown.
func (m *machine) fault(code int) {
	handler := m.rest.Handler
	n, is := m.back.Peek(m.back.Len() - handler)
	if !is || handler < frame || n < 0 || n >= api.MaxStack {
		m.rest.Status, m.rest.Code = api.Thrown, code
		return
	}
	m.back.Cut(handler)
	m.rest.Ip = m.uncatch()
	m.stack.Cut(n)
	m.stack.Push(code)
}

// uncatch takes the cells of the nearest Catch, which are the topmost ones; where it goes on.
func (m *machine) uncatch() int {
	laid, _ := m.back.Pop(frame)
	m.rest.Handler = laid[1]
	return laid[0]
}

// top tells the topmost cells, the deepest first.
func top(p *pile.Pile, n int) []int {
	l := make([]int, n)
	for k := range l {
		l[n-1-k], _ = p.Peek(k)
	}
	return l
}
