package params

import (
	"slices"
	"strings"

	"glossator/api"
)

// calls are all calls that read parameters, by their methods.
func calls() []string {
	return append([]string{toOpen, toChange, toClose, toCancel, toInit}, questions...)
}

// full are parameters that are well-formed for every call.
func full() api.Value {
	place := with(named("start", spot("0", "1")), named("end", spot("2", "0")))
	return with(
		named("textDocument", with(named("uri", text("u")), named("languageId", text("x")), named("version", number("3")), named("text", text("a")))),
		named("contentChanges", values(with(named("text", text("b"))), with(named("range", place), named("text", text(""))), with(named("range", api.Value{}), named("text", text("c"))))),
		named("previousResultId", text("7")),
		named("positions", values(spot("4", "5"), spot("6", "7"))),
		named("id", number("1")))
}

func spot(line, char string) api.Value {
	return with(named("line", number(line)), named("character", number(char)))
}

// many are parameters with that URI and so many changes and positions.
func many(uri string, changes, spots int) api.Value {
	return with(
		named("textDocument", with(named("uri", text(uri)), named("version", number("3")), named("text", text("a")))),
		named("contentChanges", values(slices.Repeat([]api.Value{with(named("text", text("b")))}, changes)...)),
		named("positions", values(slices.Repeat([]api.Value{spot("1", "2")}, spots)...)),
		named("previousResultId", text("7")),
		named("id", number("1")))
}

// some are values of every Kind, and the edges of numbers and strings.
func some() []api.Value {
	l := []api.Value{with(), with(named("uri", text("w"))), spot("1", "1"), with(named("start", spot("9", "9")), named("end", spot("8", "8"))), with(named("text", text("t"))), values(), values(spot("3", "4")), values(with(named("text", text("t")))), values(api.Value{}), full()}
	for _, s := range []string{"-1", "0", "-0", "1", "7", "2147483647", "2147483648", "1.5", "1e0", "1E2", "0.0", "9223372036854775807", "9223372036854775808", "-9223372036854775808", "-9223372036854775809", "01", "+1", "", "x", " 1"} {
		l = append(l, number(s), text(s))
	}
	for kind := range 9 {
		l = append(l, api.Value{Kind: uint8(kind)}, api.Value{Kind: uint8(kind), Text: "1", List: []api.Value{spot("1", "2")}, Fields: spot("1", "2").Fields})
	}
	return append(l, text(strings.Repeat("x", 256)), text(strings.Repeat("x", 257)), text("\xff"), text("é"), api.Value{Kind: 255}, api.Value{Text: "x"})
}

// few are some of them, for pairs.
func few() []api.Value {
	return []api.Value{{}, with(), values(), number("8"), number("-1"), text("y"), text(strings.Repeat("x", 257))}
}

// variants are what becomes of v by one change at one place, at any level: a value replaced; a field left out, renamed, or doubled with other values behind it or before it; an element left out or doubled.
func variants(v api.Value, others []api.Value) []api.Value {
	out := slices.Clone(others)
	for i, x := range v.List {
		for _, y := range variants(x, others) {
			out = append(out, values(replaced(v.List, i, y)...))
		}
		out = append(out, values(replaced(v.List, i)...), values(replaced(v.List, i, x, x)...))
	}
	for i, f := range v.Fields {
		for _, y := range variants(f.V, others) {
			out = append(out, with(replaced(v.Fields, i, named(f.Name, y))...))
		}
		for _, y := range others {
			out = append(out, with(replaced(v.Fields, i, f, named(f.Name, y))...), with(replaced(v.Fields, i, named(f.Name, y), f)...))
		}
		out = append(out, with(replaced(v.Fields, i)...), with(replaced(v.Fields, i, named(strings.ToUpper(f.Name), f.V))...), with(replaced(v.Fields, i, named(f.Name+" ", f.V))...))
	}
	return out
}

// replaced is a copy of l with others at i in the place of what stands there.
func replaced[T any](l []T, i int, others ...T) []T {
	return slices.Concat(l[:i], others, l[i+1:])
}

// extended are v with fields of other names behind those that are there, at every level, and everywhere.
func extended(v api.Value, more ...api.Field) api.Value {
	l, fields := []api.Value{}, []api.Field{}
	for _, x := range v.List {
		l = append(l, extended(x, more...))
	}
	for _, f := range v.Fields {
		fields = append(fields, named(f.Name, extended(f.V, more...)))
	}
	if v.Kind == api.JObject {
		fields = append(fields, more...)
	}
	return api.Value{Kind: v.Kind, Text: v.Text, List: l, Fields: fields}
}
