package outer

import (
	"holloway/api"
	"holloway/weave"
)

// entry is a word that is being compiled.
type entry struct {
	name  string
	began int
	code  *weave.Weave
}

// begin begins to compile a word.
func (o *Outer) begin() error {
	name, err := o.name()
	if err == nil {
		o.entry = &entry{name: name, began: o.here, code: weave.New(o.machine.Mem, o.here)}
	}
	return err
}

// end ends the word that is being compiled. Its cells alone come into the memory: what else was stored there
// since it began stays.
func (o *Outer) end() error {
	e := o.entry
	if code := e.code.Op(api.Exit); code != 0 {
		return o.fault(code)
	}
	if e.code.Open() > 0 {
		return o.fault(api.Unlike)
	}
	o.entry = nil
	return o.add(e.name, e.code.Mem()[e.began:e.code.Here()]...)
}

// define adds a word that is no more than a number, or a place.
func (o *Outer) define(own int) error {
	name, err := o.name()
	if err != nil {
		return err
	}
	n := 0
	var room []int
	switch own {
	case ownConstant:
		n, err = o.take()
	case ownVariable:
		room = []int{0}
		fallthrough
	case ownCreate:
		n = o.here + 3 // behind the three cells that each of them has: there its own ones are, or will be
	}
	if err != nil {
		return err
	}
	return o.add(name, append([]int{api.Lit, n, api.Exit}, room...)...)
}

// add adds a word, and lays its cells; both, or nothing.
func (o *Outer) add(name string, cells ...int) error {
	if len(cells) > len(o.machine.Mem)-o.here {
		return o.fault(api.NoRoom)
	}
	if code := o.words.Add(api.Word{Name: name, Xt: o.here, Op: -1}); code != 0 {
		return o.fault(code)
	}
	o.here += copy(o.machine.Mem[o.here:], cells)
	return nil
}

// further moves Here on: by one, behind a cell that is laid, or by as many as are asked for.
func (o *Outer) further(own int) error {
	n, err := o.take()
	if err != nil {
		return err
	}
	mem := o.machine.Mem
	switch own {
	case ownComma:
		if o.here < len(mem) {
			mem[o.here] = n
		}
		n = 1
		fallthrough
	case ownAllot:
		// Going round leads below 0, too: there are far fewer cells than numbers.
		to := o.here + n
		if to < 0 || to > len(mem) {
			return o.fault(api.NoRoom)
		}
		o.here = to
	}
	return nil
}

// immediate says that the last word is done at once, also while another one is compiled.
func (o *Outer) immediate() error {
	if !o.words.Immediate() {
		return o.fault(api.NoWord)
	}
	return nil
}

// forget takes a word away, all words behind it, and their cells.
func (o *Outer) forget() error {
	x, at, err := o.find()
	switch {
	case err != nil:
		return err
	case x.Xt < api.Start:
		return o.fault(api.NoWord)
	}
	o.words.Cut(at)
	o.here = x.Xt
	return nil
}

// compile lays what an own word stands for.
func (o *Outer) compile(own int, word string) error {
	e := o.entry
	code := 0
	switch own {
	case ownExit:
		code = e.code.Op(api.Exit)
	case ownI:
		code = e.code.Op(api.AtBack)
	case ownJ:
		code = e.code.Op(api.J)
	case ownUnloop:
		code = e.code.Op(api.Unloop)
	case ownRecurse:
		code = e.code.Call(e.began)
	default:
		code = e.code.Form(word)
	}
	return o.fault(code)
}

// say lays the telling of a text; 0, or the code of a fault.
func (e *entry) say(text string) int {
	for i := range len(text) {
		if code := e.code.Arg(api.Lit, int(text[i])); code != 0 {
			return code
		}
		if code := e.code.Op(api.Emit); code != 0 {
			return code
		}
	}
	return 0
}
