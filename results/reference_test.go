package results

import (
	"math/big"
	"reflect"
	"strings"

	"glossator/api"
)

// The reference: what each result is, in the words of the chapter, as a value and as it is written. It shares nothing with the package, and nothing with json and jsontext.

var legendTypes = [8]string{"keyword", "comment", "string", "number", "operator", "variable", "parameter", "function"}

var legendModifiers = [3]string{"declaration", "unresolved", "redeclared"}

const capabilities = `{"capabilities":{"positionEncoding":"utf-16","textDocumentSync":{"openClose":true,"change":2},` +
	`"semanticTokensProvider":{"legend":{"tokenTypes":["keyword","comment","string","number","operator","variable","parameter","function"],"tokenModifiers":["declaration","unresolved","redeclared"]},"full":{"delta":true}},` +
	`"foldingRangeProvider":true,"selectionRangeProvider":true},"serverInfo":{"name":"glossator"}}`

func capabilitiesMade() api.Value {
	types, modifiers := values(), values()
	for _, s := range legendTypes {
		types.List = append(types.List, text(s))
	}
	for _, s := range legendModifiers {
		modifiers.List = append(modifiers.List, text(s))
	}
	yes := api.Value{Kind: 2}
	legend := with(named("tokenTypes", types), named("tokenModifiers", modifiers))
	all := with(
		named("positionEncoding", text("utf-16")),
		named("textDocumentSync", with(named("openClose", yes), named("change", number(2)))),
		named("semanticTokensProvider", with(named("legend", legend), named("full", with(named("delta", yes))))),
		named("foldingRangeProvider", yes),
		named("selectionRangeProvider", yes))
	return with(named("capabilities", all), named("serverInfo", with(named("name", text("glossator")))))
}

func fullMade(id string, data []int) api.Value {
	return with(named("resultId", text(valid(id))), named("data", numbersMade(data)))
}

func deltaMade(id string, l []api.Splice) api.Value {
	edits := values()
	for _, s := range l {
		edits.List = append(edits.List, with(named("start", number(s.Start)), named("deleteCount", number(s.Delete)), named("data", numbersMade(s.Data))))
	}
	return with(named("resultId", text(valid(id))), named("edits", edits))
}

func foldsMade(l []api.Fold) api.Value {
	folds := values()
	for _, f := range l {
		v := with(named("startLine", number(f.StartLine)), named("endLine", number(f.EndLine)))
		if f.Comment {
			v.Fields = append(v.Fields, named("kind", text("comment")))
		}
		folds.List = append(folds.List, v)
	}
	return folds
}

func chainsMade(l [][]api.Range) api.Value {
	chains := values()
	for _, c := range l {
		chains.List = append(chains.List, chainMade(c))
	}
	return chains
}

func chainMade(l []api.Range) api.Value {
	switch len(l) {
	case 0:
		return api.Value{}
	case 1:
		return with(named("range", rangeMade(l[0])))
	}
	return with(named("range", rangeMade(l[0])), named("parent", chainMade(l[1:])))
}

func rangeMade(r api.Range) api.Value {
	return with(named("start", spotMade(r.Start)), named("end", spotMade(r.End)))
}

func spotMade(p api.Pos) api.Value {
	return with(named("line", number(p.Line)), named("character", number(p.Char)))
}

func numbersMade(l []int) api.Value {
	v := values()
	for _, n := range l {
		v.List = append(v.List, number(n))
	}
	return v
}

// valid is a string with U+FFFD for each invalid byte.
func valid(s string) string {
	var b strings.Builder
	for _, r := range s {
		b.WriteRune(r)
	}
	return b.String()
}

// alike reports whether two values are equal; nil and empty lists are.
func alike(a, b api.Value) bool { return reflect.DeepEqual(filled(a), filled(b)) }

// filled copies a value, with lists that are not nil.
func filled(v api.Value) api.Value {
	l, fields := []api.Value{}, []api.Field{}
	for _, x := range v.List {
		l = append(l, filled(x))
	}
	for _, f := range v.Fields {
		fields = append(fields, named(f.Name, filled(f.V)))
	}
	return api.Value{Kind: v.Kind, Text: v.Text, List: l, Fields: fields}
}

func number(n int) api.Value                   { return api.Value{Kind: 3, Text: big.NewInt(int64(n)).String()} }
func text(s string) api.Value                  { return api.Value{Kind: 4, Text: s} }
func values(l ...api.Value) api.Value          { return api.Value{Kind: 5, List: l} }
func with(f ...api.Field) api.Value            { return api.Value{Kind: 6, Fields: f} }
func named(name string, v api.Value) api.Field { return api.Field{Name: name, V: v} }
