package tree

import (
	"strconv"
	"strings"

	"glossator/api"
)

// names has a place for each kind; what is no kind has the empty one.
var names = [api.NkError + 1]string{
	api.TkBlank: "blank", api.TkLine: "line", api.TkBlock: "comment", api.TkOpen: "open", api.TkOdd: "odd",
	api.TkName: "name", api.TkInt: "int", api.TkText: "text", api.TkBroken: "broken",
	api.TkLet: "let", api.TkFn: "fn", api.TkIf: "if", api.TkElse: "else", api.TkWhile: "while", api.TkReturn: "return", api.TkTrue: "true", api.TkFalse: "false",
	api.TkLeft: "(", api.TkRight: ")", api.TkBegin: "{", api.TkEnd: "}", api.TkComma: ",", api.TkSemi: ";", api.TkAssign: "=",
	api.TkEqual: "==", api.TkUnlike: "!=", api.TkLess: "<", api.TkAtMost: "<=", api.TkMore: ">", api.TkAtLeast: ">=",
	api.TkPlus: "+", api.TkMinus: "-", api.TkTimes: "*", api.TkOver: "/", api.TkRest: "%", api.TkNot: "!", api.TkAnd: "&&", api.TkOr: "||",
	api.NkMissing: "Missing", api.NkFile: "File", api.NkBlock: "Block", api.NkLet: "Let", api.NkFn: "Fn", api.NkParams: "Params", api.NkIf: "If",
	api.NkWhile: "While", api.NkReturn: "Return", api.NkDo: "Do", api.NkExpr: "Expr", api.NkBinary: "Binary", api.NkUnary: "Unary", api.NkCall: "Call",
	api.NkArgs: "Args", api.NkGroup: "Group", api.NkUse: "Use", api.NkPlain: "Plain", api.NkError: "Error",
}

// Name: P15.5.
func Name(kind uint8) string {
	if kind > api.NkError {
		return ""
	}
	return names[kind]
}

// line is what Print tells of a node.
func line(p where, n api.Node) string {
	name := Name(n.Kind)
	if n.Kind == api.NkMissing {
		name = "?" + Name(n.Want)
	}
	return strings.Repeat(" ", p.above) + name + " " + strconv.Itoa(p.span.From) + "-" + strconv.Itoa(p.span.To) + "\n"
}
