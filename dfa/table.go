package dfa

import (
	"sync"

	"glossator/api"
)

// The classes of characters.
const (
	cOther = iota
	cSpace
	cBreak
	cLetter
	cDigit
	cQuote // from here on, each class is of one character
	cEscape
	cSlash
	cStar
	cEquals
	cBang
	cLess
	cMore
	cAnd
	cOr
	cLeft
	cRight
	cBegin
	cEnd
	cComma
	cSemi
	cPlus
	cMinus
	cPercent
	classes // how many there are
)

// signs are the characters of the classes from cQuote on, in the order of these.
const signs = "\"\\/*=!<>&|(){},;+-%"

// The states.
const (
	sStart = iota
	sBlank
	sOver
	sLine
	sOpen
	sOpenStar // within a comment, behind a star that may be of its end
	sBlock
	sName
	sInt
	sBroken
	sBrokenEscape // within a text, behind a `\` whose character is still to come
	sText
	sAssign
	sEqual
	sNot
	sUnlike
	sLess
	sAtMost
	sMore
	sAtLeast
	sOneAnd
	sAnd
	sOneOr
	sOr
	sLeft
	sRight
	sBegin
	sEnd
	sComma
	sSemi
	sPlus
	sMinus
	sTimes
	sRest
	sOdd
	states // how many there are
)

// none stands in the place of a state where there is no transition.
const none = -1

// leads is the state to which each class leads, or none.
type leads [classes]int8

// row is what the table says of a state.
type row struct {
	kind uint8
	to   leads
}

// The table holds nothing until once has built it: whoever reads it calls once.Do(build) first.
var (
	once  sync.Once
	table [states]row
)

func build() {
	for state, kind := range kinds() {
		table[state] = row{kind: kind, to: all(none)}
	}
	table[sStart].to = firsts()
	table[sBlank].to = all(none).but(sBlank, cSpace, cBreak)
	table[sOver].to = all(none).but(sLine, cSlash).but(sOpen, cStar)
	table[sLine].to = all(sLine).but(none, cBreak)
	table[sOpen].to = all(sOpen).but(sOpenStar, cStar)
	table[sOpenStar].to = all(sOpen).but(sOpenStar, cStar).but(sBlock, cSlash)
	table[sName].to = all(none).but(sName, cLetter, cDigit)
	table[sInt].to = all(none).but(sInt, cDigit)
	table[sBroken].to = all(sBroken).but(sText, cQuote).but(sBrokenEscape, cEscape).but(none, cBreak)
	table[sBrokenEscape].to = all(sBroken).but(none, cBreak)
	table[sAssign].to = all(none).but(sEqual, cEquals)
	table[sNot].to = all(none).but(sUnlike, cEquals)
	table[sLess].to = all(none).but(sAtMost, cEquals)
	table[sMore].to = all(none).but(sAtLeast, cEquals)
	table[sOneAnd].to = all(none).but(sAnd, cAnd)
	table[sOneOr].to = all(none).but(sOr, cOr)
}

// all has every class lead to the same state.
func all(state int8) leads {
	var l leads
	for class := range l {
		l[class] = state
	}
	return l
}

// but is l, except that some classes lead to another state.
func (l leads) but(state int8, by ...int) leads {
	for _, class := range by {
		l[class] = state
	}
	return l
}

// firsts is where the first character of a token leads.
func firsts() leads {
	return leads{
		cOther: sOdd, cSpace: sBlank, cBreak: sBlank, cLetter: sName, cDigit: sInt, cQuote: sBroken, cEscape: sOdd, cSlash: sOver,
		cStar: sTimes, cEquals: sAssign, cBang: sNot, cLess: sLess, cMore: sMore, cAnd: sOneAnd, cOr: sOneOr, cLeft: sLeft,
		cRight: sRight, cBegin: sBegin, cEnd: sEnd, cComma: sComma, cSemi: sSemi, cPlus: sPlus, cMinus: sMinus, cPercent: sRest,
	}
}

// kinds is the kind of token that ends in each state.
func kinds() [states]uint8 {
	return [states]uint8{
		sBlank: api.TkBlank, sOver: api.TkOver, sLine: api.TkLine, sOpen: api.TkOpen, sOpenStar: api.TkOpen, sBlock: api.TkBlock,
		sName: api.TkName, sInt: api.TkInt, sBroken: api.TkBroken, sBrokenEscape: api.TkBroken, sText: api.TkText,
		sAssign: api.TkAssign, sEqual: api.TkEqual, sNot: api.TkNot, sUnlike: api.TkUnlike, sLess: api.TkLess, sAtMost: api.TkAtMost, sMore: api.TkMore, sAtLeast: api.TkAtLeast,
		sOneAnd: api.TkOdd, sAnd: api.TkAnd, sOneOr: api.TkOdd, sOr: api.TkOr,
		sLeft: api.TkLeft, sRight: api.TkRight, sBegin: api.TkBegin, sEnd: api.TkEnd, sComma: api.TkComma, sSemi: api.TkSemi, sPlus: api.TkPlus, sMinus: api.TkMinus,
		sTimes: api.TkTimes, sRest: api.TkRest, sOdd: api.TkOdd,
	}
}
