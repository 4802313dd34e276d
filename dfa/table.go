package dfa

import "sync"

// The classes of characters.
const (
	cOther = iota
	cSpace
	cBreak
	cLetter
	cDigit
	cQuote // from here on, each class is of one character
	cEscape
	cSlash
	cStar
	cEquals
	cBang
	cLess
	cMore
	cAnd
	cOr
	cLeft
	cRight
	cBegin
	cEnd
	cComma
	cSemi
	cPlus
	cMinus
	cPercent
	classes // how many there are
)

// signs are the characters of the classes from cQuote on, in the order of these.
const signs = "\"\\/*=!<>&|(){},;+-%"

// The states.
const (
	sStart = iota
	sBlank
	sOver
	sLine
	sOpen
	sOpenStar // within a comment, behind a star that may be of its end
	sBlock
	sName
	sInt
	sBroken
	sBrokenEscape // within a text, behind a `\` whose character is still to come
	sText
	sAssign
	sEqual
	sNot
	sUnlike
	sLess
	sAtMost
	sMore
	sAtLeast
	sOneAnd
	sAnd
	sOneOr
	sOr
	sLeft
	sRight
	sBegin
	sEnd
	sComma
	sSemi
	sPlus
	sMinus
	sTimes
	sRest
	sOdd
	states // how many there are
)

// none stands in the place of a state where there is no transition.
const none = -1

// row is what the table says of a state: its kind, and the state to which each class leads, or none.
type row struct {
	kind uint8
	to   [classes]int8
}

// What Step, Kind, Word and Scan answer hangs on no variable: the functions of steps.go tell it, and build writes the same into the table. That holds nothing until once has built it, so it is read by built alone.
var (
	once  sync.Once
	table [states]row
)

func build() {
	for state := range table {
		table[state].kind = kind(state)
		for class := range table[state].to {
			table[state].to[class] = int8(leads(state, class))
		}
	}
}

// built is the table.
func built() [states]row {
	once.Do(build)
	return table
}
