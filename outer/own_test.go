package outer_test

import (
	"fmt"
	"math"
	"slices"
	"strconv"
	"strings"
	"testing"

	"holloway/api"
	"holloway/inner"
	"holloway/outer"
)

// P1102: the dictionary counts first, then the own words, then numbers; else NoWord.
func TestWhatCountsFirst(t *testing.T) {
	for _, x := range []struct {
		lines []string
		stack []int
	}{
		{[]string{"5 Dup DUP dUp"}, []int{5, 5, 5, 5}},
		{[]string{": 5 7 ;", "5 05"}, []int{7, 5}},                              // a word ahead of a number
		{[]string{": here 7 ;", "here Here HERE"}, []int{7, 7, 7}},              // a word ahead of an own one
		{[]string{": w 1 ;", ": W w 2 ;", "w"}, []int{1, 2}},                    // the last one of that name; it is there behind its end
		{[]string{": if 3 ; : then 4 ; : w if then ;", "w"}, []int{3, 4}},       // also while a word is compiled
		{[]string{": ; 9 ; immediate", ": w", "; ;"}, []int{9, 9}},              // .. which is never ended then
		{[]string{": dup 8 ;", "forget dup 6 dup"}, []int{6, 6}},                // what lay beneath is there again
		{[]string{"hex", ": a 1 ;", "a b 0A $a #10"}, []int{1, 11, 10, 10, 10}}, // what is a word is no number
		{[]string{"'''  '\x7f' 'a'"}, []int{39, 127, 97}},                       // no tick: a number of three bytes
		{[]string{"-0 -1 $-Ff %-101 #-9"}, []int{0, -1, -255, -5, -9}},
		{[]string{"9223372036854775808 18446744073709551617"}, []int{math.MinInt, 1}},
		{[]string{"\t1\x00 2\n3\r\x1f4"}, []int{1, 2, 3, 4}}, // blanks of all kinds
		{[]string{"", "  ", "\n", "1"}, []int{1}},
	} {
		expectCells(t, fmt.Sprint(x.lines), session(t, 400, x.lines...).State().Stack, x.stack...)
	}
	for _, x := range []string{
		"nowhere", "--1", "+1", "$", "''", "'a", "'ab'", "\xff", "\u00e9", "\u017f", "\u212a", "[", "]", "exit;", "DUPDUP", "heRe\x7f", "lite\u0280al",
		"(DO)", "(LOOP)", "(+LOOP)", "LIT", "BRANCH", "0BRANCH", "NOP", "HALT", "ENDCATCH",
		strings.Repeat("a", 600), strings.Repeat("1", 71), "%2", "#a",
	} {
		for _, ahead := range []string{"", ": w 5", "hex"} {
			o := session(t, 400, ahead)
			before := lookAt(o)
			expectLine(t, o, x, api.NoWord)
			expectFault(t, x, o, before)
		}
	}
}

// P1102: numbers are laid on the stack, as long as there is room; or compiled, whatever they are.
func TestNumbers(t *testing.T) {
	o := session(t, 400, full())
	expectIs(t, "Stack", len(o.State().Stack), api.MaxStack)
	before := lookAt(o)
	for _, x := range []string{"1", "'a'", "here", "char a", "' dup"} {
		o = session(t, 400, full())
		expectLine(t, o, x, api.Over)
		expectFault(t, x, o, before)
	}
	o = session(t, 400, full(), ": w 1 char a ['] dup -5 $7f 'A'")
	expectIs(t, "Stack", len(o.State().Stack), api.MaxStack)
	expectLine(t, o, "literal ;", 0)
	expectIs(t, "Stack", len(o.State().Stack), api.MaxStack-1)
	expectCells(t, "laid", laid(o), 2, 1, 2, 97, 2, 76, 2, -5, 2, 127, 2, 65, 2, 7, 5)
}

// P1102: what is compiled is the operation, or a call; what is immediate is run.
func TestCompile(t *testing.T) {
	o := session(t, 400, ": a dup * ;", ": b 7 ; immediate", "1 : c a b Throw 3 B +!")
	expectIs(t, "Compiling", o.Compiling(), true)
	expectCells(t, "Stack", o.State().Stack, 1, 7, 7)
	expectLine(t, o, "; b", 0) // outside it is run as ever
	expectCells(t, "Stack", o.State().Stack, 1, 7, 7, 7)
	expectCells(t, "laid", laid(o), 6, 13, 5, 2, 7, 5, 192, 45, 2, 3, 32, 5)
	for op := range api.Ops { // every word of the first dictionary is its operation
		for _, x := range outer.New(300, "").Words().All() {
			if x.Op == op {
				expectCells(t, x.Name, laid(session(t, 400, ": w "+x.Name+" ;")), op, api.Exit)
			}
		}
	}
	o = session(t, 400, ": a ; immediate : b a a ; : c a")
	expectLine(t, o, "1 ;", 0)
	expectCells(t, "laid", laid(o), 5, 5, 2, 1, 5)
	o = session(t, 400, "-100 allot : low ; 100 allot") // a word that can be run, but not called
	expectLine(t, o, "low", 0)
	expectLine(t, o, ": w low", 0)
	expectIs(t, "Xt", o.Words().All()[number].Xt, 92)
	o = session(t, 400, "-129 allot : low ; 140 allot low")
	expectLine(t, o, ": w low", api.NoAddress)
	o = session(t, 400, "-129 allot : low")
	expectLine(t, o, "recurse", api.NoAddress)
	o = session(t, 400, "-128 allot : w recurse ;")
	expectCells(t, "it calls itself", o.State().Mem[64:66], 64, 5)
}

// P1102: a word that is immediate is run on the stack as it is, while the word that is compiled waits.
func TestImmediateInside(t *testing.T) {
	o := session(t, 400, ": double dup + ; immediate", "3 : w")
	expectIs(t, "Begin", o.Begin("double literal 1"), true)
	code, runs := o.Go()
	expectIs(t, "code", code, 0)
	expectIs(t, "runs", runs, true)
	expectIs(t, "Compiling", o.Compiling(), true)
	expectIs(t, "Ip", o.State().Ip, 192)
	expectCells(t, "Stack", o.State().Stack, 3)
	s, _ := inner.Run(o.State(), 99)
	o.Back(s)
	code, runs = o.Go()
	expectIs(t, "code", code, 0)
	expectIs(t, "runs", runs, false)
	expectIs(t, "Compiling", o.Compiling(), true)
	expectLine(t, o, ";", 0)
	expectCells(t, "laid", laid(o)[3:], 2, 6, 2, 1, 5)
	expectCells(t, "Stack", o.State().Stack)
}

// P1103: what is stored while a word is compiled stays, but where its cells come to lie.
func TestStoresInside(t *testing.T) {
	o := session(t, 400, ": at ! ; immediate", "8 196 9 197 7 220 : w 4 at at at")
	here := o.Here()
	expectIs(t, "Here", here, 194)
	expectCells(t, "stored", o.State().Mem[194:198], 0, 0, 8, 9)
	expectLine(t, o, "; w", 0)
	expectCells(t, "laid", o.State().Mem[194:199], 2, 4, 5, 9, 0)
	expectIs(t, "elsewhere", o.State().Mem[220], 7)
	expectCells(t, "Stack", o.State().Stack, 4)
}

// outsideOnly are the own words that are for no word that is compiled.
var outsideOnly = []string{":", "CONSTANT", "VARIABLE", "CREATE", ",", "ALLOT", "HERE", "'", "IMMEDIATE", "FORGET"}

// insideOnly are those that are for nothing else.
var insideOnly = []string{
	";", "[']", "EXIT", "I", "J", "UNLOOP", "RECURSE", "LITERAL",
	"IF", "ELSE", "THEN", "BEGIN", "UNTIL", "AGAIN", "WHILE", "REPEAT", "DO", "LOOP", "+LOOP",
}

// P1103: where a word may not stand it is Only, ahead of all other faults.
func TestOnly(t *testing.T) {
	for _, name := range outsideOnly {
		for _, text := range []string{name, strings.ToLower(name), name + " x", name + " " + strings.Repeat("a", 30)} {
			o := session(t, 300, "1 2 : w 3")
			before := lookAt(o)
			expectLine(t, o, text, api.Only)
			expectFault(t, text, o, before)
			o = session(t, 300, ": w if") // also where there is nothing on the stack
			expectLine(t, o, text, api.Only)
		}
	}
	for _, name := range insideOnly {
		for _, text := range []string{name, strings.ToLower(name), name + " dup", name + " " + strings.Repeat("a", 30)} {
			o := session(t, 300, "1 2")
			before := lookAt(o)
			expectLine(t, o, text, api.Only)
			expectFault(t, text, o, before)
			expectLine(t, o, text, api.Only)
		}
	}
}

// P1103: names are the next word: NoName, if there is none, or it may not be; letters as they stand.
func TestNames(t *testing.T) {
	long := strings.Repeat("n", api.MaxName)
	for _, word := range []string{":", "1 constant", "variable", "create", "'", "forget", ": w [']"} {
		for _, x := range []struct {
			name string
			code int
		}{
			{"", api.NoName}, {" ", api.NoName}, {" \n\t ", api.NoName}, {" " + long + "n", api.NoName}, {" " + strings.Repeat("\u00e9", 11), api.NoName},
		} {
			o := session(t, 300, "5")
			before := lookAt(o)
			expectLine(t, o, word+x.name, x.code)
			expectFault(t, word+x.name, o, before)
		}
	}
	for _, word := range []string{":", "1 constant", "variable", "create"} {
		for _, name := range []string{long, "a", "Sq", "7", "(", "\"", "\xff", strings.Repeat("\u00e9", 10), "\\", "\x7f", ";", ".\""} {
			o := session(t, 300, word+"  \n "+name)
			if word == ":" {
				expectIs(t, name+", there already", o.Words().Len(), number)
				expectLine(t, o, ";", 0)
			}
			expectIs(t, name+", words", o.Words().Len(), number+1)
			expectIs(t, name, o.Words().All()[number], api.Word{Name: name, Xt: 192, Op: -1})
		}
	}
}

// P1103: a word is laid where it began, Here is behind it, and it is added.
func TestColon(t *testing.T) {
	o := session(t, 300, ": a", "1 2", "+ ;")
	expectLook(t, "a", lookAt(o), func() look {
		l := lookAt(outer.New(300, "in"))
		copy(l.state.Mem[192:], []int{2, 1, 2, 2, 11, 5})
		l.words, l.here = append(l.words, api.Word{Name: "a", Xt: 192, Op: -1}), 198
		return l
	}())
	o = session(t, 300, ": a")
	expectIs(t, "Compiling", o.Compiling(), true)
	expectIs(t, "Here", o.Here(), 192)
	expectLine(t, o, ";", 0)
	expectIs(t, "Compiling", o.Compiling(), false)
	expectIs(t, "Here", o.Here(), 193)
	expectCells(t, "laid", laid(o), 5)
	for _, open := range []string{"if", "if else", "begin", "begin while", "do", "if do"} {
		o = session(t, 300, "7", ": w 1 "+open)
		before := lookAt(o)
		expectLine(t, o, "2 ;", api.Unlike)
		expectFault(t, open, o, before)
	}
}

// P1103: where there is no room for all cells nothing is laid, and nothing is added.
func TestNoRoom(t *testing.T) {
	for _, x := range []struct {
		text  string
		cells int
	}{
		{": w ;", 1}, {": w dup ;", 2}, {": w 5 ;", 3}, {": w if then ;", 3}, {": w begin again ;", 3}, {": w begin while repeat ;", 5},
		{": w do loop ;", 4}, {": w do i +loop ;", 5}, {": w recurse ;", 2}, {": w exit ;", 2}, {": w j unloop ;", 3},
		{": w .\" abc\" ;", 10}, {": w .\" \" ;", 1}, {": w char a ;", 3}, {": w ['] dup ;", 3}, {"4 : w literal ;", 3},
		{"7 constant w", 3}, {"variable w", 4}, {"create w", 3}, {"7 ,", 1}, {"7 , 8 ,", 2}, {"0 allot", 0}, {"9 allot", 9},
	} {
		for left := range 12 {
			o := session(t, 600)
			expectLine(t, o, fmt.Sprint(600-192-left, " allot"), 0)
			before := lookAt(o)
			if left >= x.cells {
				expectLine(t, o, x.text, 0)
				expectIs(t, x.text, o.Here(), 600-left+x.cells)
				continue
			}
			expectLine(t, o, x.text, api.NoRoom)
			expectIs(t, x.text+", words", o.Words().Len(), number)
			if x.text != "7 , 8 ," {
				expectFault(t, x.text, o, before)
			}
		}
	}
	o := session(t, 600, fmt.Sprint(600-192-2, " allot : w if"))
	expectLine(t, o, ";", api.NoRoom) // Exit is named first, then what is open
	o = session(t, 600, fmt.Sprint(600-192-3, " allot : w if"))
	expectLine(t, o, ";", api.Unlike)
}

// P1103: where there are MaxWords nothing is laid, and nothing is added.
func TestTooManyWords(t *testing.T) {
	for _, x := range []struct {
		text string
		code int
	}{
		{": w", 0}, {": w ;", api.NoRoom}, {": w if ;", api.Unlike}, {": w 1 2 3 ;", api.NoRoom}, {"7 constant w", api.NoRoom}, {"variable w", api.NoRoom}, {"create w", api.NoRoom},
		{"constant w", api.Under}, {"7 constant", api.NoName}, {"constant", api.NoName}, {"7 ,", 0}, {"forget n : w ; : n", 0}, {"immediate", 0},
	} {
		o := session(t, 2000)
		for range api.MaxWords - number {
			expectLine(t, o, ": n ;", 0)
		}
		expectIs(t, "words", o.Words().Len(), api.MaxWords)
		before := lookAt(o)
		expectLine(t, o, x.text, x.code)
		expectIs(t, x.text+", words", o.Words().Len(), api.MaxWords)
		if x.code != 0 {
			expectFault(t, x.text, o, before)
		}
	}
}

// P1103: words that are a number, or a place.
func TestDefine(t *testing.T) {
	o := session(t, 300, "5 -7 constant k variable v create c 9 , k v c c @")
	expectCells(t, "laid", laid(o), 2, -7, 5, 2, 198, 5, 0, 2, 202, 5, 9)
	expectCells(t, "Stack", o.State().Stack, 5, -7, 198, 202, 9)
	expectIs(t, "Here", o.Here(), 203)
	for i, x := range []api.Word{{Name: "k", Xt: 192, Op: -1}, {Name: "v", Xt: 195, Op: -1}, {Name: "c", Xt: 199, Op: -1}} {
		expectIs(t, x.Name, o.Words().All()[number+i], x)
	}
	expectLine(t, o, "4 v ! : w v @ k + c ; w", 0)
	expectCells(t, "Stack", o.State().Stack, 5, -7, 198, 202, 9, -3, 202)
	for _, x := range []struct {
		text string
		code int
	}{{"constant x", api.Under}, {"constant", api.NoName}, {",", api.Under}, {"allot", api.Under}} {
		o = session(t, 300)
		before := lookAt(o)
		expectLine(t, o, x.text, x.code)
		expectFault(t, x.text, o, before)
	}
}

// P1103: `,` lays a cell, ALLOT moves Here to where there may be cells.
func TestFurther(t *testing.T) {
	o := session(t, 300, "1 2 , , -3 ,")
	expectCells(t, "laid", laid(o), 2, 1, -3)
	for _, x := range []struct {
		n    int
		code int
	}{
		{0, 0}, {1, 0}, {108, 0}, {109, api.NoRoom}, {-1, 0}, {-192, 0}, {-193, api.NoRoom}, {300, api.NoRoom}, {-300, api.NoRoom},
		{math.MaxInt, api.NoRoom}, {math.MinInt, api.NoRoom}, {math.MaxInt - 191, api.NoRoom}, {math.MaxInt - 192, api.NoRoom}, {math.MinInt + 192, api.NoRoom},
	} {
		o = session(t, 300, "7")
		before := lookAt(o)
		expectLine(t, o, strconv.Itoa(x.n)+" allot", x.code)
		if x.code != 0 {
			expectFault(t, "allot", o, before)
			continue
		}
		before.here += x.n
		expectLook(t, "allot", lookAt(o), before)
	}
	o = session(t, 300, "5 , -1 allot here @ here 108 allot here 0 allot") // what was laid stays
	expectCells(t, "Stack", o.State().Stack, 5, 192, 300)
	expectLine(t, o, "1 ,", api.NoRoom)
	o = session(t, 300, "-192 allot 9 , 8 ,")
	expectCells(t, "from 0 on", o.State().Mem[:3], 9, 8, 0)
}

// P1103: an xt is that of the last word of that name.
func TestTick(t *testing.T) {
	o := session(t, 300, ": a 1 ; : A 2 ; ' a ' dup ' DUP : w ['] a ['] Over ; w")
	expectCells(t, "Stack", o.State().Stack, 195, 76, 76, 195, 82)
	expectCells(t, "laid", laid(o)[6:], 2, 195, 2, 82, 5)
	for _, text := range []string{"' none", "' 5", "' if", "' :", "forget none", "forget :", "forget 5", ": w ['] none", ": w ['] w", ": w ['] if"} {
		o = session(t, 300, "5")
		before := lookAt(o)
		expectLine(t, o, text, api.NoWord)
		expectFault(t, text, o, before)
	}
}

// P1103: the last word is immediate from then on, be it one of the first ones.
func TestImmediate(t *testing.T) {
	o := session(t, 300, ": a 1 ; : b 2 ; immediate immediate")
	all := o.Words().All()
	expectIs(t, "a", all[number].Immediate, false)
	expectIs(t, "b", all[number+1].Immediate, true)
	o = session(t, 300, "immediate")
	expectIs(t, "the last one", o.Words().All()[number-1], api.Word{Name: "CATCH", Xt: 156, Op: 46, Immediate: true})
	o = session(t, 300, ": a ; 5 constant k immediate : w k k literal ;")
	expectCells(t, "Stack", o.State().Stack, 5)
	expectCells(t, "laid", laid(o)[4:], 2, 5, 5)
}

// P1103: FORGET takes the last word of that name, and all behind it; Here is its Xt.
func TestForget(t *testing.T) {
	o := session(t, 300, ": a 1 ; : b 2 ; : A 3 ; 4 constant c", "forget a")
	expectIs(t, "words", o.Words().Len(), number+2)
	expectIs(t, "Here", o.Here(), 198)
	expectLine(t, o, "a b", 0)
	expectCells(t, "Stack", o.State().Stack, 1, 2)
	expectCells(t, "the cells stay", o.State().Mem[198:204], 2, 3, 5, 2, 4, 5)
	expectLine(t, o, "forget A", 0)
	expectIs(t, "words", o.Words().Len(), number)
	expectIs(t, "Here", o.Here(), 192)
	o = session(t, 300, ": a ; -1 allot : b ; 20 allot : c ; forget b") // by the order of the dictionary alone
	expectIs(t, "Here", o.Here(), 192)
	expectIs(t, "words", o.Words().Len(), number+1)
	for _, x := range []struct {
		ahead, name string
		code        int
	}{
		{"", "dup", api.NoWord}, {"", "CATCH", api.NoWord}, {"-1 allot : a ; 5 allot : b ;", "a", api.NoWord}, {"-1 allot : a ; 5 allot : b ;", "b", 0},
		{": dup ;", "DUP", 0}, {"-1 allot : a ; -5 allot : b ;", "b", api.NoWord},
	} {
		o = session(t, 300, x.ahead)
		before := lookAt(o)
		expectLine(t, o, "forget "+x.name, x.code)
		if x.code != 0 {
			expectFault(t, x.name, o, before)
		}
	}
}

// P1103: what is laid by own words that are an operation, a call, or words of control.
func TestCode(t *testing.T) {
	for _, x := range []struct {
		text string
		want []int
	}{
		{"exit i j unloop", []int{5, 35, 39, 40}},
		{"EXIT I J UNLOOP", []int{5, 35, 39, 40}},
		{"recurse 1 recurse", []int{192, 2, 1, 192}},
		{"if dup else drop then", []int{4, 197, 6, 3, 198, 7}},
		{"Begin dup Until", []int{6, 4, 192}},
		{"begin dup again", []int{6, 3, 192}},
		{"begin dup while drop repeat", []int{6, 4, 198, 7, 3, 192}},
		{"do i loop", []int{36, 35, 37, 193}},
		{"DO I +LOOP", []int{36, 35, 38, 193}},
		{"4 char c ( dup ) ['] dup \\ drop", []int{2, 4, 2, 99, 2, 76}},
		{"hex a decimal 10 base", nil},
		{"hex a decimal 10", []int{2, 10, 2, 10}},
		{".\" a\xff \"", []int{2, 97, 41, 2, 255, 41, 2, 32, 41}},
		{".\" \"", []int{}},
		{".\" ab", []int{2, 97, 41, 2, 98, 41}}, // the mark is missing: all that was left
	} {
		o := session(t, 300)
		if x.want == nil {
			expectLine(t, o, ": w "+x.text, api.NoWord)
			continue
		}
		expectLine(t, o, ": w "+x.text, 0)
		expectIs(t, "Compiling", o.Compiling(), true)
		expectLine(t, o, ";", 0)
		expectCells(t, x.text, laid(o), append(slices.Clone(x.want), 5)...)
	}
	for _, text := range []string{"then", "else", "until", "again", "while", "repeat", "loop", "+loop", "if until", "begin loop", "do then"} {
		o := session(t, 300, "5 : w 1")
		before := lookAt(o)
		expectLine(t, o, text, api.Unlike)
		expectFault(t, text, o, before)
	}
	o := session(t, 300, ": w")
	before := lookAt(o)
	expectLine(t, o, "literal", api.Under)
	expectFault(t, "literal", o, before)
	o = session(t, 300, "1 2 : w literal 3 literal ; w")
	expectCells(t, "Stack", o.State().Stack, 2, 3, 1)
}

// P1103: what is left out: up to a parenthesis, or all the rest, also behind the end of what looks like a line.
func TestRemarks(t *testing.T) {
	for _, x := range []struct {
		text string
		want []int
	}{
		{"1 ( 2 ) 3", []int{1, 3}}, {"1 ( 2)3", []int{1, 3}}, {"1 ( 2 ( 3 ) 4", []int{1, 4}}, {"1 ( 2 3", []int{1}}, {"1 (", []int{1}}, {"( ) 1", []int{1}}, {"( \n ) 1", []int{1}},
		{"1 \\ 2 3", []int{1}}, {"1 \\ 2\n3", []int{1}}, {"1 \\", []int{1}}, {"\\ 1 ) 2", nil}, {"( \\ ) 1", []int{1}}, {"1 \\ ( 2", []int{1}},
	} {
		o := session(t, 300, x.text, "9")
		expectCells(t, x.text, o.State().Stack, append(slices.Clone(x.want), 9)...)
		o = session(t, 300, ": w "+x.text, "9", "; w")
		expectCells(t, "inside: "+x.text, o.State().Stack, append(slices.Clone(x.want), 9)...)
	}
}

// P1103: a text is told, or it is compiled that it is.
func TestSay(t *testing.T) {
	for _, x := range []struct{ text, want string }{
		{".\" ab c\" 1", "ab c"}, {".\" a", "a"}, {".\" \" 1", ""}, {".\"", ""}, {".\"  \"", " "}, {".\" (a\\\n\x00\xff\"", "(a\\\n\x00\xff"}, {".\" a\".\" b\"", "ab"},
		{".\" a\"1 2", "a"}, {".\"\na\"", "a"},
	} {
		o := session(t, 300, x.text)
		expectIs(t, x.text, o.State().Out, x.want)
		expectIs(t, "nothing is run", o.State().Ip, 0)
		o = session(t, 300, ": w "+x.text, "; w")
		expectIs(t, "inside: "+x.text, o.State().Out, x.want)
	}
	for n := 1995; n <= 2005; n++ {
		o := outer.New(300, "in")
		s := o.State()
		s.Out = strings.Repeat("o", n-5)
		o.Back(s)
		before := lookAt(o)
		if n <= api.MaxOut {
			expectLine(t, o, ".\" abcde\"", 0)
			expectIs(t, "Out", o.State().Out, s.Out+"abcde")
			continue
		}
		expectLine(t, o, "1 .\" abcde\"", api.OutFull)
		expectFault(t, "OutFull", o, before)
		expectLine(t, o, ": w .\" abcde\" ;", 0) // to compile it tells nothing yet
		expectLine(t, o, "w", api.OutFull)
	}
}

// P1103: CHAR takes any word, be it no name.
func TestChar(t *testing.T) {
	for _, x := range []struct {
		word string
		want int
	}{
		{"a", 97}, {"Abc", 65}, {strings.Repeat("x", 300), 120}, {"\xff\xfe", 255}, {"\u00e9", 0xc3}, {"\\", 92}, {"(", 40}, {")", 41}, {"dup", 100}, {"\x7f", 127}, {"5", 53},
	} {
		o := session(t, 300, "char \n "+x.word)
		expectCells(t, x.word, o.State().Stack, x.want)
		o = session(t, 300, ": w char "+x.word+" ; w")
		expectCells(t, x.word, o.State().Stack, x.want)
		expectCells(t, x.word, laid(o), 2, x.want, 5)
	}
	for _, ahead := range []string{"5", "5 : w"} {
		for _, text := range []string{"char", "char ", "char \n\t"} {
			o := session(t, 300, ahead)
			before := lookAt(o)
			expectLine(t, o, text, api.NoName)
			expectFault(t, text, o, before)
		}
	}
}

// P1103: the base stays till it is turned, also behind a fault; signs say another one.
func TestBase(t *testing.T) {
	o := session(t, 300, "hex 10 ff FF -a #10 decimal 10 hex")
	expectCells(t, "Stack", o.State().Stack, 16, 255, 255, -10, 10, 10)
	expectLine(t, o, "fg", api.NoWord)
	expectLine(t, o, "hex 10", 0)
	expectLine(t, o, ": w 10 decimal 10 [ ;", api.NoWord)
	expectLine(t, o, "10 decimal 11", 0)
	expectCells(t, "Stack", o.State().Stack, 10, 11)
	expectLine(t, o, "ff", api.NoWord)
	o = session(t, 300, "hex 10 .") // what is told is in base 10 all the same
	expectIs(t, "Out", o.State().Out, "16 ")
}

// P1101, P1103: what a fault in a word takes away, and what stays, wherever it came up.
func TestFaults(t *testing.T) {
	for _, x := range []struct {
		text string
		code int
	}{
		{"drop", api.Under}, {"1 0 /", api.ByZero}, {"-1 @", api.NoAddress}, {"1 2 3 9 execute", api.NoWord}, {"7 throw", 7},
		{": l 1 >r recurse ; l", api.BackOver}, {": l 1 recurse ; l", api.BackOver}, {": l begin 1 again ; l", api.Over},
		{": l begin 65 emit again ; l", api.OutFull}, {": l r> drop r> drop ; l", api.BackUnder}, {": l 5 throw ; immediate : m l", 5},
		{": l drop ; ' l catch . 3 throw", 3}, {": l ['] dup catch throw ; l", api.Under},
	} {
		o := session(t, 300)
		code, _ := o.Line(x.text+" 1 2 3", 2*plenty)
		expectIs(t, x.text, code, x.code)
		s := o.State()
		expectCells(t, "Stack", s.Stack)
		expectCells(t, "Back", s.Back)
		expectIs(t, "Handler", s.Handler, 0)
		expectIs(t, "Status", s.Status, api.Done)
		expectIs(t, "Code", s.Code, x.code)
		expectIs(t, "Compiling", o.Compiling(), false)
	}
	o := session(t, 300, ": l 5 throw ; : m ['] l catch ; 1 2 m")
	expectCells(t, "what is caught is no fault of the outer", o.State().Stack, 1, 2, 5)
}
