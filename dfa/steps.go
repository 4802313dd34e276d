package dfa

import "glossator/api"

// leads is the state to which a class leads from a state, or none.
func leads(state, class int) int {
	switch state {
	case sStart:
		return first(class)
	case sBlank:
		return only(class == cSpace || class == cBreak, sBlank)
	case sOver:
		return behindSlash(class)
	case sLine:
		return only(class != cBreak, sLine)
	case sOpen, sOpenStar:
		return inComment(state, class)
	case sName:
		return only(class == cLetter || class == cDigit, sName)
	case sInt:
		return only(class == cDigit, sInt)
	case sBroken:
		return inText(class)
	case sBrokenEscape:
		return only(class != cBreak, sBroken)
	case sAssign:
		return only(class == cEquals, sEqual)
	case sNot:
		return only(class == cEquals, sUnlike)
	case sLess:
		return only(class == cEquals, sAtMost)
	case sMore:
		return only(class == cEquals, sAtLeast)
	case sOneAnd:
		return only(class == cAnd, sAnd)
	case sOneOr:
		return only(class == cOr, sOr)
	}
	return none
}

// only is the state if the condition holds, or none.
func only(holds bool, state int) int {
	if holds {
		return state
	}
	return none
}

// first is where a token's first character leads.
func first(class int) int {
	to := [classes]int{
		cOther: sOdd, cSpace: sBlank, cBreak: sBlank, cLetter: sName, cDigit: sInt, cQuote: sBroken, cEscape: sOdd, cSlash: sOver,
		cStar: sTimes, cEquals: sAssign, cBang: sNot, cLess: sLess, cMore: sMore, cAnd: sOneAnd, cOr: sOneOr, cLeft: sLeft,
		cRight: sRight, cBegin: sBegin, cEnd: sEnd, cComma: sComma, cSemi: sSemi, cPlus: sPlus, cMinus: sMinus, cPercent: sRest,
	}
	return to[class]
}

func behindSlash(class int) int {
	switch class {
	case cSlash:
		return sLine
	case cStar:
		return sOpen
	}
	return none
}

func inComment(state, class int) int {
	switch {
	case class == cStar:
		return sOpenStar
	case class == cSlash && state == sOpenStar:
		return sBlock
	}
	return sOpen
}

func inText(class int) int {
	switch class {
	case cQuote:
		return sText
	case cEscape:
		return sBrokenEscape
	}
	return only(class != cBreak, sBroken)
}

// leadsOn tells whether a state has any transition.
func leadsOn(state int) bool {
	for class := range classes {
		if leads(state, class) != none {
			return true
		}
	}
	return false
}

// kind is that of a token that ends in a state.
func kind(state int) uint8 {
	of := [states]uint8{
		sBlank: api.TkBlank, sOver: api.TkOver, sLine: api.TkLine, sOpen: api.TkOpen, sOpenStar: api.TkOpen, sBlock: api.TkBlock,
		sName: api.TkName, sInt: api.TkInt, sBroken: api.TkBroken, sBrokenEscape: api.TkBroken, sText: api.TkText,
		sAssign: api.TkAssign, sEqual: api.TkEqual, sNot: api.TkNot, sUnlike: api.TkUnlike, sLess: api.TkLess, sAtMost: api.TkAtMost, sMore: api.TkMore, sAtLeast: api.TkAtLeast,
		sOneAnd: api.TkOdd, sAnd: api.TkAnd, sOneOr: api.TkOdd, sOr: api.TkOr,
		sLeft: api.TkLeft, sRight: api.TkRight, sBegin: api.TkBegin, sEnd: api.TkEnd, sComma: api.TkComma, sSemi: api.TkSemi, sPlus: api.TkPlus, sMinus: api.TkMinus,
		sTimes: api.TkTimes, sRest: api.TkRest, sOdd: api.TkOdd,
	}
	return of[state]
}
