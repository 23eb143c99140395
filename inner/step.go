package inner

import (
	"holloway/api"
	"holloway/cell"
	"holloway/digits"
	"holloway/fault"
)

// cells are some of both stacks, the deepest first.
type cells struct{ stack, back []int }

// step is an operation that is done.
type step struct {
	op, arg     int
	took, gives cells
	at, next    int // where it is; where the machine goes on: behind it, where nothing says otherwise
}

// fault tells a fault of this step.
func (x *step) fault(code int) error { return fault.New(code, x.at) }

// do does all of an operation but what it takes from the stacks and gives to them: that is left in the step.
// Nothing is done where it tells an error, but that a Throw takes its cell.
func (m *machine) do(x *step) error {
	switch x.op {
	case api.Halt, api.Execute, api.Throw, api.Catch, api.EndCatch:
		return m.control(x)
	case api.Fetch, api.Store, api.AddTo:
		return m.remember(x)
	case api.Emit, api.Dot:
		return m.say(x)
	case api.Key:
		m.ask(x)
	case api.Exit, api.Branch, api.Zero, api.Loop, api.PlusLoop:
		x.turn()
	case api.Nop, api.Lit, api.Dup, api.Drop, api.Swap, api.Copy, api.Rot,
		api.ToBack, api.FromBack, api.AtBack, api.Do, api.J, api.Unloop:
		x.move()
	default:
		return x.reckon()
	}
	return nil
}

// control does what begins and ends words, and catches.
func (m *machine) control(x *step) error {
	switch x.op {
	case api.Halt:
		m.rest.Status = api.Done
		x.next = x.at
	case api.Execute:
		xt := x.took.stack[0]
		if xt < api.First || xt >= m.mem.Len() {
			return x.fault(api.NoWord)
		}
		x.gives.back = []int{x.next}
		x.next = xt
	case api.Throw:
		return m.throw(x)
	case api.Catch:
		x.gives.back = []int{x.next, m.rest.Handler, m.stack.Len() - len(x.took.stack), caught}
		m.rest.Handler = m.back.Len() + frame
		x.next = x.took.stack[0]
	case api.EndCatch:
		return m.endCatch(x)
	}
	return nil
}

// throw tells the fault that lies on the stack; the fault is one of the machine without that cell.
func (m *machine) throw(x *step) error {
	err := x.fault(x.took.stack[0])
	if err != nil {
		m.stack.Pop(1)
	}
	return err
}

// endCatch goes on behind the Catch whose word came back.
func (m *machine) endCatch(x *step) error {
	if m.rest.Handler < frame || m.rest.Handler != m.back.Len() {
		return x.fault(api.Broken)
	}
	if m.stack.Len() >= api.MaxStack {
		return x.fault(api.Over)
	}
	x.next = m.uncatch()
	x.gives.stack = []int{0}
	return nil
}

// remember asks the memory, or changes it.
func (m *machine) remember(x *step) error {
	v, a := x.took.stack[0], x.took.stack[len(x.took.stack)-1]
	was, is := m.mem.Load(a)
	if !is {
		return x.fault(api.NoAddress)
	}
	switch x.op {
	case api.Fetch:
		x.gives.stack = []int{was}
	case api.AddTo:
		v += was
		fallthrough
	case api.Store:
		m.mem.Store(a, v)
	}
	return nil
}

// say tells a byte, or a number.
func (m *machine) say(x *step) error {
	v := x.took.stack[0]
	text := string([]byte{byte(v)})
	if x.op == api.Dot {
		text = digits.Put(v, 10) + " "
	}
	if len(m.rest.Out)+len(text) > api.MaxOut {
		return x.fault(api.OutFull)
	}
	m.rest.Out += text
	return nil
}

// ask reads a byte; -1 where none is left.
func (m *machine) ask(x *step) {
	v, at := -1, m.rest.Read
	// A state that may not be is asked here, too: it may say that less than nothing was read.
	if at >= 0 && at < len(m.rest.In) {
		v = int(m.rest.In[at])
		m.rest.Read++
	}
	x.gives.stack = []int{v}
}

// turn says where the machine goes on.
func (x *step) turn() {
	n := 1
	switch x.op {
	case api.Exit:
		x.next = x.took.back[0]
	case api.Zero:
		if x.took.stack[0] != 0 {
			return
		}
		fallthrough
	case api.Branch:
		x.next = x.arg
	case api.PlusLoop:
		n = x.took.stack[0]
		fallthrough
	case api.Loop:
		limit, index := x.took.back[0], x.took.back[1]
		// By 1 the limit is crossed just where the index comes to it: so this holds of Loop, too.
		if !cell.Crosses(index-limit, n) {
			x.gives.back = []int{limit, index + n}
			x.next = x.arg
		}
	}
}

// move lays cells elsewhere, or anew; of Nop, Drop and Unloop nothing is laid.
func (x *step) move() {
	stack, back := x.took.stack, x.took.back
	switch x.op {
	case api.Lit:
		x.gives.stack = []int{x.arg}
	case api.Swap, api.Rot:
		// The deepest one comes on top here as of the next two; but it doesn't stay where it was.
		stack = stack[1:]
		fallthrough
	case api.Dup, api.Copy:
		x.gives.stack = append(stack, x.took.stack[0])
	case api.ToBack, api.Do:
		x.gives.back = stack
	case api.AtBack, api.J:
		// What is looked at stays.
		x.gives.back = back
		fallthrough
	case api.FromBack:
		x.gives.stack = back[:1]
	}
}

// reckon does an operation of one cell, or of two.
func (x *step) reckon() error {
	a, b := x.took.stack[0], x.took.stack[len(x.took.stack)-1]
	v, is := cell.One(x.op, a)
	if !is {
		v, is = cell.Two(x.op, a, b)
	}
	if !is {
		return x.fault(api.ByZero)
	}
	x.gives.stack = []int{v}
	return nil
}
