package grammar

import "glossator/api"

// What stands first in more than one part.
const (
	empty        set = 1 << nothing
	sums         set = 1<<api.TkPlus | 1<<api.TkMinus
	products     set = 1<<api.TkTimes | 1<<api.TkOver | 1<<api.TkRest
	comparisons  set = 1<<api.TkEqual | 1<<api.TkUnlike | 1<<api.TkLess | 1<<api.TkAtMost | 1<<api.TkMore | 1<<api.TkAtLeast
	aPlain       set = 1<<api.TkInt | 1<<api.TkText | 1<<api.TkTrue | 1<<api.TkFalse
	aPrimary     set = aPlain | 1<<api.TkName | 1<<api.TkLeft
	anExpression set = aPrimary | 1<<api.TkMinus | 1<<api.TkNot
	aStatement   set = anExpression | 1<<api.TkLet | 1<<api.TkFn | 1<<api.TkIf | 1<<api.TkWhile | 1<<api.TkReturn | 1<<api.TkBegin
)

// What stands behind more than one part.
const (
	behindStatements set = 1<<end | 1<<api.TkEnd
	behindStatement  set = behindStatements | aStatement
	behind1          set = 1<<api.TkRight | 1<<api.TkBegin | 1<<api.TkComma | 1<<api.TkSemi | 1<<api.TkAssign
	behind2          set = behind1 | 1<<api.TkOr
	behind3          set = behind2 | 1<<api.TkAnd
	behind4          set = behind3 | comparisons
	behind5          set = behind4 | sums
	behindUnary      set = behind5 | products
	behindPrimary    set = behindUnary | 1<<api.TkLeft
)

// beginning is FIRST of a part, and nothing beside it if the part is nullable. Like following it is written out, so that no answer hangs on a variable.
func beginning(part uint8) set {
	switch part {
	case api.NkFile, statements:
		return aStatement | empty
	case statement:
		return aStatement
	case api.NkLet:
		return 1 << api.TkLet
	case api.NkFn:
		return 1 << api.TkFn
	case api.NkParams:
		return 1 << api.TkLeft
	case names:
		return 1<<api.TkName | empty
	case moreNames:
		return 1<<api.TkComma | empty
	case api.NkIf:
		return 1 << api.TkIf
	case orElse:
		return 1<<api.TkElse | empty
	case behindElse:
		return 1<<api.TkIf | 1<<api.TkBegin
	case api.NkWhile:
		return 1 << api.TkWhile
	case api.NkReturn:
		return 1 << api.TkReturn
	case returned:
		return anExpression | empty
	case api.NkBlock:
		return 1 << api.TkBegin
	case api.NkDo:
		return anExpression
	case assigned:
		return 1<<api.TkAssign | empty
	}
	return beginningInExpression(part)
}

// beginningInExpression is FIRST of a part of which expressions are made.
func beginningInExpression(part uint8) set {
	switch part {
	case api.NkExpr, level1, level2, level3, level4, level5, unary:
		return anExpression
	case more1:
		return 1<<api.TkOr | empty
	case more2:
		return 1<<api.TkAnd | empty
	case more3:
		return comparisons | empty
	case more4:
		return sums | empty
	case more5:
		return products | empty
	case called, primary:
		return aPrimary
	case calls:
		return 1<<api.TkLeft | empty
	case api.NkArgs, api.NkGroup:
		return 1 << api.TkLeft
	case arguments:
		return anExpression | empty
	case moreArguments:
		return 1<<api.TkComma | empty
	case api.NkUse:
		return 1 << api.TkName
	case api.NkPlain:
		return aPlain
	}
	return 0
}

// following is FOLLOW of a part.
func following(part uint8) set {
	switch part {
	case api.NkFile:
		return 1 << end
	case statements:
		return behindStatements
	case statement, api.NkLet, api.NkFn, api.NkIf, orElse, behindElse, api.NkWhile, api.NkReturn, api.NkDo:
		return behindStatement
	case api.NkBlock:
		return behindStatement | 1<<api.TkElse
	case api.NkParams:
		return 1 << api.TkBegin
	case names, moreNames, arguments, moreArguments:
		return 1 << api.TkRight
	case returned, assigned:
		return 1 << api.TkSemi
	case api.NkExpr, level1, more1:
		return behind1
	case level2, more2:
		return behind2
	case level3, more3:
		return behind3
	case level4, more4:
		return behind4
	case level5, more5:
		return behind5
	case unary, called, calls:
		return behindUnary
	case api.NkArgs, primary, api.NkUse, api.NkPlain, api.NkGroup:
		return behindPrimary
	}
	return 0
}

// beginnings is FIRST of all parts.
func beginnings() sets {
	var l sets
	for part := range l {
		l[part] = beginning(uint8(part))
	}
	return l
}

// followings is FOLLOW of all parts.
func followings() sets {
	var l sets
	for part := range l {
		l[part] = following(uint8(part))
	}
	return l
}
