package grammar

import "glossator/api"

// The parts that are no kinds of nodes.
const (
	statements = 101 + iota
	statement
	names
	moreNames
	orElse
	behindElse
	returned
	assigned
	arguments
	moreArguments
	level1
	level2
	level3
	level4
	level5
	unary
	called
	calls
	primary
)

// What comes behind the first operand of a level.
const (
	more1 = 121 + iota
	more2
	more3
	more4
	more5
)

// rule is a Rule as the package itself reads it.
type rule struct {
	part  uint8
	right right
}

// right is a right-hand side; from its end on it holds nothing, the number from which only the empty sequence is derived.
type right [5]uint8

// symbols are those of the right-hand side.
func (r right) symbols() []uint8 {
	l := make([]uint8, 0, len(r))
	for _, symbol := range r {
		if symbol != nothing {
			l = append(l, symbol)
		}
	}
	return l
}

// all are the rules in order.
func all() []rule { return append(ofStatements(), ofExpressions()...) }

// ofStatements are the rules from 0 to 29.
func ofStatements() []rule {
	return []rule{
		{api.NkFile, right{statements}},
		{statements, right{statement, statements}},
		{statements, right{}},
		{statement, right{api.NkLet}},
		{statement, right{api.NkFn}},
		{statement, right{api.NkIf}},
		{statement, right{api.NkWhile}},
		{statement, right{api.NkReturn}},
		{statement, right{api.NkBlock}},
		{statement, right{api.NkDo}},
		{api.NkLet, right{api.TkLet, api.TkName, api.TkAssign, api.NkExpr, api.TkSemi}},
		{api.NkFn, right{api.TkFn, api.TkName, api.NkParams, api.NkBlock}},
		{api.NkParams, right{api.TkLeft, names, api.TkRight}},
		{names, right{api.TkName, moreNames}},
		{names, right{}},
		{moreNames, right{api.TkComma, api.TkName, moreNames}},
		{moreNames, right{}},
		{api.NkIf, right{api.TkIf, api.NkExpr, api.NkBlock, orElse}},
		{orElse, right{api.TkElse, behindElse}},
		{orElse, right{}},
		{behindElse, right{api.NkIf}},
		{behindElse, right{api.NkBlock}},
		{api.NkWhile, right{api.TkWhile, api.NkExpr, api.NkBlock}},
		{api.NkReturn, right{api.TkReturn, returned, api.TkSemi}},
		{returned, right{api.NkExpr}},
		{returned, right{}},
		{api.NkBlock, right{api.TkBegin, statements, api.TkEnd}},
		{api.NkDo, right{api.NkExpr, assigned, api.TkSemi}},
		{assigned, right{api.TkAssign, api.NkExpr}},
		{assigned, right{}},
	}
}

// ofExpressions are the rules from 30 to 73.
func ofExpressions() []rule {
	return []rule{
		{api.NkExpr, right{level1}},
		{level1, right{level2, more1}},
		{more1, right{api.TkOr, level2, more1}},
		{more1, right{}},
		{level2, right{level3, more2}},
		{more2, right{api.TkAnd, level3, more2}},
		{more2, right{}},
		{level3, right{level4, more3}},
		{more3, right{api.TkEqual, level4, more3}},
		{more3, right{api.TkUnlike, level4, more3}},
		{more3, right{api.TkLess, level4, more3}},
		{more3, right{api.TkAtMost, level4, more3}},
		{more3, right{api.TkMore, level4, more3}},
		{more3, right{api.TkAtLeast, level4, more3}},
		{more3, right{}},
		{level4, right{level5, more4}},
		{more4, right{api.TkPlus, level5, more4}},
		{more4, right{api.TkMinus, level5, more4}},
		{more4, right{}},
		{level5, right{unary, more5}},
		{more5, right{api.TkTimes, unary, more5}},
		{more5, right{api.TkOver, unary, more5}},
		{more5, right{api.TkRest, unary, more5}},
		{more5, right{}},
		{unary, right{api.TkMinus, unary}},
		{unary, right{api.TkNot, unary}},
		{unary, right{called}},
		{called, right{primary, calls}},
		{calls, right{api.NkArgs, calls}},
		{calls, right{}},
		{api.NkArgs, right{api.TkLeft, arguments, api.TkRight}},
		{arguments, right{api.NkExpr, moreArguments}},
		{arguments, right{}},
		{moreArguments, right{api.TkComma, api.NkExpr, moreArguments}},
		{moreArguments, right{}},
		{primary, right{api.NkUse}},
		{primary, right{api.NkPlain}},
		{primary, right{api.NkGroup}},
		{api.NkUse, right{api.TkName}},
		{api.NkPlain, right{api.TkInt}},
		{api.NkPlain, right{api.TkText}},
		{api.NkPlain, right{api.TkTrue}},
		{api.NkPlain, right{api.TkFalse}},
		{api.NkGroup, right{api.TkLeft, api.NkExpr, api.TkRight}},
	}
}
