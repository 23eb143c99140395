// Package straight does straight code whose values lie in registers. It is no layer: those that run traces lean on it.
package straight

import (
	"slices"

	"holloway/api"
	"holloway/cell"
	"holloway/digits"
	"holloway/inner"
)

// base is the one in which numbers are told.
const base = 10

// Code is straight code.
type Code struct {
	Trace     api.Trace // its places are registers, in its exits, too
	To        []int     // the register of each instruction's value
	Registers int       // how many there are
}

// Run runs code in a machine that has what it takes: the machine where it was left, by which exit, and whether a watched cell was stored into. The exit is -1, and the machine nothing, if it names one that isn't there.
func (c Code) Run(s api.State, watched []int) (api.State, int, bool) {
	r := &run{code: c, state: inner.Copy(s), registers: make([]int, c.Registers), watched: watched}
	exit := r.exit()
	if !within(exit, len(c.Trace.Outs)-1) {
		return api.State{}, -1, false
	}
	return r.leave(c.Trace.Outs[exit]), exit, r.hit
}

// run is code that is run.
type run struct {
	code      Code
	state     api.State // its stacks stay as they are until the code is left: instructions ask them as they were
	registers []int
	watched   []int
	hit       bool
}

// exit does the instructions, and tells by which exit the code is left.
func (r *run) exit() int {
	for at, i := range r.code.Trace.Ins {
		v, on := r.do(i)
		switch {
		case r.hit:
			return i.A
		case !on:
			return i.X
		}
		set(r.registers, r.code.To[at], v)
	}
	return r.code.Trace.Last
}

// do does an instruction; its value, and false, if it can't be done, or doesn't hold.
func (r *run) do(i api.Ins) (int, bool) {
	switch i.Op {
	case api.Const:
		return i.A, true
	case api.Slot:
		return get(r.state.Stack, len(r.state.Stack)-1-i.A)
	case api.Behind:
		return get(r.state.Back, len(r.state.Back)-1-i.A)
	case api.Calc:
		return r.calc(i)
	case api.Load:
		return get(r.state.Mem, r.value(i.B))
	case api.Put:
		return 0, r.put(r.value(i.B), r.value(i.C))
	case api.Say:
		return 0, r.say(string([]byte{byte(r.value(i.B))}))
	case api.Tell:
		return 0, r.say(digits.Put(r.value(i.B), base) + " ")
	case api.Ask:
		return r.ask(), true
	}
	return 0, r.holds(i)
}

// holds tells whether a guard holds: each kind is turned into the next one, and the last one asks.
func (r *run) holds(i api.Ins) bool {
	b := r.value(i.B)
	switch i.Op {
	case api.Same:
		// No bit differs just of two that are the same.
		b ^= r.value(i.C)
		fallthrough
	case api.MustNot:
		b = cell.Flag(b == 0)
		fallthrough
	case api.Must:
		return b != 0
	}
	return false
}

// calc reckons with one value, or with two; false, if it can't be.
func (r *run) calc(i api.Ins) (int, bool) {
	if v, is := cell.One(i.A, r.value(i.B)); is {
		return v, true
	}
	return cell.Two(i.A, r.value(i.B), r.value(i.C))
}

// put stores into a cell; false, if there is none.
func (r *run) put(a, v int) bool {
	if !set(r.state.Mem, a, v) {
		return false
	}
	r.hit = slices.Contains(r.watched, a)
	return true
}

// say tells a text; false, and nothing of it, if there is no room for all.
func (r *run) say(text string) bool {
	if len(r.state.Out)+len(text) > api.MaxOut {
		return false
	}
	r.state.Out += text
	return true
}

// ask reads a byte; -1 where none is left.
func (r *run) ask() int {
	at := r.state.Read
	// A state that may not be is asked here, too: it may say that less than nothing was read.
	if !within(at, len(r.state.In)-1) {
		return -1
	}
	r.state.Read++
	return int(r.state.In[at])
}

// value tells what lies in a register; 0, if there is none: code that may not be is asked here, too.
func (r *run) value(register int) int {
	v, _ := get(r.registers, register)
	return v
}

// leave tells the machine at an exit.
func (r *run) leave(x api.Out) api.State {
	s := r.state
	s.Ip = x.Ip
	s.Stack = r.lay(s.Stack, r.code.Trace.Slots, x.Stack)
	s.Back = r.lay(s.Back, r.code.Trace.Backs, x.Back)
	return s
}

// lay tells a stack with what lies in some registers in place of its topmost cells.
func (r *run) lay(l []int, taken int, registers []int) []int {
	l = l[:len(l)-taken]
	for _, n := range registers {
		l = append(l, r.value(n))
	}
	return l
}

// get tells a cell of a list; false, if there is none.
func get(l []int, at int) (int, bool) {
	if !within(at, len(l)-1) {
		return 0, false
	}
	return l[at], true
}

// set sets a cell of a list; false, if there is none.
func set(l []int, at, v int) bool {
	if !within(at, len(l)-1) {
		return false
	}
	l[at] = v
	return true
}

// within tells whether a number is 0 to most.
func within(n, most int) bool { return n >= 0 && n <= most }
