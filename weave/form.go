package weave

import (
	"holloway/api"
	"holloway/words"
)

// part is what is open.
type part struct {
	kind int
	cell int // of a BEGIN or DO the cell to go back to; of the others the operand that leads nowhere yet
}

// What may be open; 0 is none of them.
const (
	anIf = 1 + iota
	anElse
	aBegin
	aWhile
	aDo
)

// The words of control.
const (
	wordIf = iota
	wordElse
	wordThen
	wordBegin
	wordUntil
	wordAgain
	wordWhile
	wordRepeat
	wordDo
	wordLoop
	wordPlus
)

// names are their names, by their numbers.
var names = [...]string{
	wordIf:     "IF",
	wordElse:   "ELSE",
	wordThen:   "THEN",
	wordBegin:  "BEGIN",
	wordUntil:  "UNTIL",
	wordAgain:  "AGAIN",
	wordWhile:  "WHILE",
	wordRepeat: "REPEAT",
	wordDo:     "DO",
	wordLoop:   "LOOP",
	wordPlus:   "+LOOP",
}

// formOf tells which word of control it is, letters great or small; false, if it is none.
func formOf(word string) (int, bool) {
	for form := range names {
		if words.Same(word, names[form]) {
			return form, true
		}
	}
	return 0, false
}

// fits tells whether that is open which a word of control closes, or stands in.
func (w *Weave) fits(form int) bool {
	last := w.last(0).kind
	switch form {
	case wordRepeat:
		if last != aWhile {
			return false
		}
		last = w.last(1).kind
		fallthrough
	case wordUntil, wordAgain, wordWhile:
		return last == aBegin
	case wordThen:
		if last == anElse {
			return true
		}
		fallthrough
	case wordElse:
		return last == anIf
	case wordLoop, wordPlus:
		return last == aDo
	}
	return true
}

// turn does a word of control that fits. Its cells come first: where there is no room for them, nothing is closed.
func (w *Weave) turn(form int) int {
	if code := w.lay(w.cells(form)...); code != 0 {
		return code
	}
	w.shut(form)
	w.begin(form)
	return 0
}

// cells are those that a word of control lays.
func (w *Weave) cells(form int) []int {
	switch form {
	case wordIf, wordWhile:
		return []int{api.Zero, 0}
	case wordElse:
		return []int{api.Branch, 0}
	case wordUntil:
		return []int{api.Zero, w.last(0).cell}
	case wordAgain:
		return []int{api.Branch, w.last(0).cell}
	case wordRepeat:
		return []int{api.Branch, w.last(1).cell}
	case wordDo:
		return []int{api.Do}
	case wordLoop:
		return []int{api.Loop, w.last(0).cell}
	case wordPlus:
		return []int{api.PlusLoop, w.last(0).cell}
	}
	return nil
}

// shut closes what a word of control closes: what led nowhere leads here from now on.
func (w *Weave) shut(form int) {
	switch form {
	case wordElse, wordThen:
		w.lead()
	case wordRepeat:
		w.lead()
		fallthrough // the BEGIN lies below it, and is closed as ever
	case wordUntil, wordAgain, wordLoop, wordPlus:
		w.drop()
	}
}

// begin opens what a word of control opens, behind its cells.
func (w *Weave) begin(form int) {
	switch operand := w.here - 1; form {
	case wordIf:
		w.push(anIf, operand)
	case wordElse:
		w.push(anElse, operand)
	case wordWhile:
		w.push(aWhile, operand)
	case wordBegin:
		w.push(aBegin, w.here)
	case wordDo:
		w.push(aDo, w.here)
	}
}

// last tells what is open, from the last one on (0); one of no kind, if there is none.
func (w *Weave) last(n int) part {
	at := len(w.open) - 1 - n
	if at < 0 {
		return part{}
	}
	return w.open[at]
}

// push opens one more.
func (w *Weave) push(kind, cell int) { w.open = append(w.open, part{kind, cell}) }

// drop closes the last one.
func (w *Weave) drop() { w.open = w.open[:len(w.open)-1] }

// lead closes the last one, and makes it lead here.
func (w *Weave) lead() {
	w.mem[w.last(0).cell] = w.here
	w.drop()
}
