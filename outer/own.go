package outer

import (
	"holloway/api"
	"holloway/source"
	"holloway/words"
)

// The outer's own words.
const (
	ownColon = iota
	ownSemicolon
	ownConstant
	ownVariable
	ownCreate
	ownComma
	ownAllot
	ownHere
	ownTick
	ownBracketTick
	ownImmediate
	ownForget
	ownExit
	ownI
	ownJ
	ownUnloop
	ownRecurse
	ownLiteral
	ownIf
	ownElse
	ownThen
	ownBegin
	ownUntil
	ownAgain
	ownWhile
	ownRepeat
	ownDo
	ownLoop
	ownPlusLoop
	ownParen
	ownBackslash
	ownSay
	ownChar
	ownHex
	ownDecimal
)

// names are their names, by their numbers.
var names = [...]string{
	ownColon:       ":",
	ownSemicolon:   ";",
	ownConstant:    "CONSTANT",
	ownVariable:    "VARIABLE",
	ownCreate:      "CREATE",
	ownComma:       ",",
	ownAllot:       "ALLOT",
	ownHere:        "HERE",
	ownTick:        "'",
	ownBracketTick: "[']",
	ownImmediate:   "IMMEDIATE",
	ownForget:      "FORGET",
	ownExit:        "EXIT",
	ownI:           "I",
	ownJ:           "J",
	ownUnloop:      "UNLOOP",
	ownRecurse:     "RECURSE",
	ownLiteral:     "LITERAL",
	ownIf:          "IF",
	ownElse:        "ELSE",
	ownThen:        "THEN",
	ownBegin:       "BEGIN",
	ownUntil:       "UNTIL",
	ownAgain:       "AGAIN",
	ownWhile:       "WHILE",
	ownRepeat:      "REPEAT",
	ownDo:          "DO",
	ownLoop:        "LOOP",
	ownPlusLoop:    "+LOOP",
	ownParen:       "(",
	ownBackslash:   "\\",
	ownSay:         ".\"",
	ownChar:        "CHAR",
	ownHex:         "HEX",
	ownDecimal:     "DECIMAL",
}

// ownOf tells which own word it is, letters great or small; false, if it is none.
func ownOf(word string) (int, bool) {
	for own := range names {
		if words.Same(word, names[own]) {
			return own, true
		}
	}
	return 0, false
}

// fits tells whether an own word may stand where it does: most are for a word that is being compiled, or for none.
func (o *Outer) fits(own int) bool {
	in := o.Compiling()
	switch own {
	case ownParen, ownBackslash, ownSay, ownChar, ownHex, ownDecimal:
		return true
	case ownColon, ownConstant, ownVariable, ownCreate, ownComma, ownAllot, ownHere, ownTick, ownImmediate, ownForget:
		in = !in
		fallthrough
	default:
		return in
	}
}

// own does an own word.
func (o *Outer) own(own int, word string) error {
	if !o.fits(own) {
		return o.fault(api.Only)
	}
	switch own {
	case ownColon:
		return o.begin()
	case ownSemicolon:
		return o.end()
	case ownConstant, ownVariable, ownCreate:
		return o.define(own)
	case ownComma, ownAllot:
		return o.further(own)
	case ownHere, ownTick, ownBracketTick, ownLiteral, ownChar:
		n, err := o.value(own)
		if err != nil {
			return err
		}
		return o.number(n)
	case ownImmediate:
		return o.immediate()
	case ownForget:
		return o.forget()
	case ownParen:
		o.line.Until(')')
		return nil
	case ownBackslash:
		o.line = source.New("")
		return nil
	case ownSay:
		// Where the mark is missing it is all that was left: no fault.
		text, _ := o.line.Until('"')
		return o.say(text)
	case ownHex, ownDecimal:
		o.rebase(own)
		return nil
	}
	return o.compile(own, word)
}

// value tells the number that an own word stands for.
func (o *Outer) value(own int) (int, error) {
	switch own {
	case ownHere:
		return o.here, nil
	case ownLiteral:
		return o.take()
	case ownChar:
		word, is := o.line.Word()
		if !is {
			return 0, o.fault(api.NoName)
		}
		return int(word[0]), nil
	}
	x, _, err := o.find()
	return x.Xt, err
}

// say tells a text, or compiles that it is told.
func (o *Outer) say(text string) error {
	switch {
	case o.Compiling():
		return o.fault(o.entry.say(text))
	case len(o.machine.Out)+len(text) > api.MaxOut:
		return o.fault(api.OutFull)
	}
	o.machine.Out += text
	return nil
}

// rebase turns the base of numbers.
func (o *Outer) rebase(own int) {
	o.base = 0
	switch own {
	case ownHex:
		o.base += 6
		fallthrough
	case ownDecimal:
		o.base += decimal
	}
}

// name reads a name.
func (o *Outer) name() (string, error) {
	name, _ := o.line.Word()
	if !words.Right(name) {
		return "", o.fault(api.NoName)
	}
	return name, nil
}

// find reads a name, and finds its word, and where in the dictionary that is.
func (o *Outer) find() (api.Word, int, error) {
	name, err := o.name()
	if err != nil {
		return api.Word{}, 0, err
	}
	all := o.words.All()
	for at := len(all) - 1; at >= 0; at-- {
		if words.Same(all[at].Name, name) {
			return all[at], at, nil
		}
	}
	return api.Word{}, 0, o.fault(api.NoWord)
}
