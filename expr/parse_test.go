package expr

import (
	"strings"
	"testing"

	"docstore/api"
	"docstore/sample"
)

// written is an expression with the text of its value.
type written struct {
	s string
	e api.Expr
}

// canonical returns expressions with the texts of the values that Build returns: all operators, and all forms of ExValue.
func canonical() []written {
	a, one := pathTo("a"), lit("1")
	l := []written{
		{`{"$value":"$a"}`, lit(`"$a"`)}, {`{"$value":"$"}`, lit(`"$"`)}, {`{"$value":"$$x"}`, lit(`"$$x"`)},
		{`{"$value":[]}`, lit(`[]`)}, {`{"$value":["$a",{"b":["$$"]}]}`, lit(`["$a",{"b":["$$"]}]`)},
		{`{"$value":{"a":"$b"}}`, lit(`{"a":"$b"}`)}, {`{"$value":{"a":1,"b":2}}`, lit(`{"a":1,"b":2}`)},
		{`"$a"`, a}, {`"$a.0.b"`, pathTo("a.0.b")}, {`"$$x"`, variableAt("x", "")}, {`"$$x.a.1"`, variableAt("x", "a.1")},
		{`"$a$"`, pathTo("a$")}, {`"$$x$"`, variableAt("x$", "")}, {`"$` + strings.Repeat("0", api.MaxName) + `"`, pathTo(strings.Repeat("0", api.MaxName))},
		{`[]`, node(api.ExList)}, {`[1]`, node(api.ExList, one)}, {`["$a",[],1]`, node(api.ExList, a, node(api.ExList), one)},
		{`{"a":1}`, fieldsOf("a", one)}, {`{"b":{"a":"$a"},"a":{}}`, fieldsOf("b a", fieldsOf("a", a), lit("{}"))}, {`{"a$":1}`, fieldsOf("a$", one)},
		{`{"$map":["$a","x",{"$mul":["$$x",2]}]}`, loop(api.ExMap, a, "x", node(api.ExMul, variableAt("x", ""), lit("2")))},
		{`{"$filter":[[1],"a","$a"]}`, loop(api.ExFilter, node(api.ExList, one), "a", a)},
	}
	for _, s := range []string{`null`, `true`, `false`, `0`, `-5`, `""`, `"a"`, `"a$"`, `" $a"`, `{"$min":1}`, `{"$max":1}`, `{"$time":5}`, `{"$bytes":"2461"}`, `{"$id":"242424242424242424242424"}`, `{}`} {
		l = append(l, written{s, lit(s)})
	}
	for op, name := range named() {
		switch kidsOf(op) {
		case 1:
			l = append(l, written{`{"` + name + `":"$a"}`, node(op, a)}, written{`{"` + name + `":[1]}`, node(op, node(api.ExList, one))}, written{`{"` + name + `":[]}`, node(op, node(api.ExList))})
		case 2:
			l = append(l, written{`{"` + name + `":["$a",1]}`, node(op, a, one)})
		case 3:
			l = append(l, written{`{"` + name + `":["$a",1,[]]}`, node(op, a, one, node(api.ExList))})
		case -1:
			l = append(l, written{`{"` + name + `":[]}`, node(op)}, written{`{"` + name + `":[1]}`, node(op, one)}, written{`{"` + name + `":["$a",1,["$a"],1]}`, node(op, a, one, node(api.ExList, a), one)})
		}
	}
	return l
}

// named returns the operators whose kids are written behind their name.
func named() map[int]string {
	return map[int]string{
		api.ExNot: "$not", api.ExLower: "$lower", api.ExUpper: "$upper", api.ExLength: "$length", api.ExSize: "$size", api.ExReverse: "$reverse", api.ExSum: "$sum", api.ExKind: "$kind",
		api.ExSub: "$sub", api.ExDiv: "$div", api.ExMod: "$mod", api.ExCompare: "$cmp", api.ExEq: "$eq", api.ExNe: "$ne", api.ExGt: "$gt", api.ExGe: "$ge", api.ExLt: "$lt", api.ExLe: "$le",
		api.ExIfNull: "$ifNull", api.ExAt: "$at", api.ExIn: "$in", api.ExIf: "$if", api.ExSlice: "$slice",
		api.ExAdd: "$add", api.ExMul: "$mul", api.ExAnd: "$and", api.ExOr: "$or", api.ExConcat: "$concat", api.ExJoin: "$join", api.ExMerge: "$merge",
	}
}

// P8.2: every form.
func TestParse(t *testing.T) {
	for _, c := range canonical() {
		expectParse(t, val(c.s), c.e)
		expectParse(t, val(`[`+c.s+`,{"$not":`+c.s+`}]`), node(api.ExList, c.e, node(api.ExNot, c.e)))
		expectParse(t, val(`{"$filter":[`+c.s+`,"y",`+c.s+`]}`), loop(api.ExFilter, c.e, "y", c.e))
		expectParse(t, val(`{"b":`+c.s+`,"a":`+c.s+`}`), fieldsOf("b a", c.e, c.e))
	}
	for _, s := range pool() {
		expectParse(t, val(`{"$value":`+s+`}`), lit(s))
	}
	expectParse(t, api.Value{Kind: api.KindDoc, Doc: []api.Field{}, List: []api.Value{}}, lit("{}"))
	expectParse(t, val(`["$a","$$a",{"$value":"$$a"}]`), node(api.ExList, pathTo("a"), variableAt("a", ""), lit(`"$$a"`)))
}

// P8.2: what is not well-formed is refused before everything else, at every place.
func TestParseIllFormed(t *testing.T) {
	unknown := val(`{"$x":1}`)
	for _, v := range append(invalid(), api.Value{}, list([]api.Value{{Kind: 99}})) {
		if len(v.Doc) == 1 && v.Doc[0].Name == "$a" {
			continue // well-formed
		}
		expectRefused(t, v, api.ErrKind)
		expectRefused(t, list([]api.Value{null(), v}), api.ErrKind)
		expectRefused(t, list([]api.Value{unknown, v}), api.ErrKind)
		expectRefused(t, only("$value", v), api.ErrKind)
		expectRefused(t, only("$x", v), api.ErrKind)
		expectRefused(t, only("a", only("$add", list([]api.Value{v}))), api.ErrKind)
	}
	expectRefused(t, api.Value{Kind: api.KindDoc, Doc: []api.Field{{Name: "$add", Value: list(nil)}, {Name: "$add", Value: list(nil)}}}, api.ErrKind)
	expectRefused(t, api.Value{Kind: api.KindDoc, Doc: []api.Field{{Name: "$add", Value: list(nil)}}, Text: "a"}, api.ErrKind)
	expectRefused(t, api.Value{Kind: api.KindText, Text: "$a", Doc: []api.Field{{Name: "$add", Value: list(nil)}}}, api.ErrKind)
	expectRefused(t, sample.NestedLists(1<<16, null()), api.ErrKind)
	expectRefused(t, sample.NestedDocs(1<<16, null()), api.ErrKind)
	expectRefused(t, sample.Nulls(1<<20), api.ErrKind)
}

func only(name string, v api.Value) api.Value {
	return api.Value{Kind: api.KindDoc, Doc: []api.Field{{Name: name, Value: v}}}
}

// P8.2: the names of the fields of a well-formed document, which need not be names.
func TestParseFieldNames(t *testing.T) {
	for b := range 0x100 {
		name := string([]byte{byte(b), byte(b)})
		switch {
		case b < 0x20 || b > 0x7e:
			expectRefused(t, only(name, num(1)), api.ErrKind)
		case b == '$':
			expectRefused(t, only(name, num(1)), api.ErrOp)
		case b == ' ' || b == '.':
			expectRefused(t, only(name, num(1)), api.ErrName)
		default:
			expectParse(t, only(name, num(1)), fieldsOf(name, lit("1")))
		}
	}
	expectRefused(t, only("", num(1)), api.ErrKind)
	expectRefused(t, only("$"+strings.Repeat("a", 127), num(1)), api.ErrOp)
	expectRefused(t, only("$"+strings.Repeat("a", 128), num(1)), api.ErrKind)
	expectRefused(t, only(strings.Repeat("a", 128), num(1)), api.ErrName)
	expectRefused(t, only(strings.Repeat("a", 129), num(1)), api.ErrKind)
	expectParse(t, only(strings.Repeat("a", api.MaxName), num(1)), fieldsOf(strings.Repeat("a", api.MaxName), lit("1")))
	expectRefused(t, only(strings.Repeat("a", api.MaxName+1), num(1)), api.ErrName)
}

// P8.2: operators that do not exist, or have the wrong value.
func TestParseOperators(t *testing.T) {
	for _, name := range []string{"$", "$$", "$x", "$Add", "$add ", "$ad", "$addd", "$ add", "$$add", "$add.a", "$path", "$var", "$list", "$doc", "$compare", "$min", "$id", "$set"} {
		for _, s := range []string{`null`, `[]`, `[1]`, `[1,2]`, `"$a"`, `{}`} {
			expectRefused(t, only(name, val(s)), api.ErrOp)
		}
	}
	for op, name := range named() {
		for kids := range 6 {
			if n := kidsOf(op); n > 1 && n != kids {
				expectRefused(t, only(name, list(sample.Nulls(kids).List)), api.ErrOp)
			}
		}
		for _, s := range []string{`null`, `1`, `"$a"`, `"a"`, `{}`, `{"a":1}`, `{"$value":[1,2,3]}`, `{"$add":[]}`, `{"$bytes":""}`} {
			if kidsOf(op) != 1 {
				expectRefused(t, only(name, val(s)), api.ErrOp)
			}
		}
	}
	for _, name := range []string{"$map", "$filter"} {
		for _, s := range []string{
			`null`, `"x"`, `{}`, `[]`, `[1]`, `["$a","x"]`, `[[],1]`, `["$a","x","$$x",1]`, `{"a":["$a","x","$$x"]}`,
			`["$a",1,"$$x"]`, `["$a",null,1]`, `["$a",["x"],1]`, `["$a",{"$value":"x"},1]`, `["$a",{"$bytes":"61"},1]`, `["$a",{"$id":"242424242424242424242424"},1]`,
		} {
			expectRefused(t, only(name, val(s)), api.ErrOp)
		}
		for _, s := range []string{`""`, `"$"`, `"$x"`, `"$$x"`, `"x.y"`, `"x y"`, `"é"`, `"` + strings.Repeat("x", api.MaxName+1) + `"`} {
			expectRefused(t, only(name, val(`[1,`+s+`,2]`)), api.ErrName)
		}
	}
}

// P8.2: strings that begin with $ and are neither paths nor variables.
func TestParseTexts(t *testing.T) {
	long := strings.Repeat("a", api.MaxName+1)
	for _, s := range []string{"$$", "$$.", "$$.a", "$$..", "$$$", "$$$x", "$$$.a", "$$x y", "$$ ", "$$\u00e9", "$$\x00", "$$" + long, "$$" + long + ".", "$$" + long + ".a..b"} {
		expectRefused(t, text(s), api.ErrName)
	}
	for _, s := range []string{"$", "$.", "$.a", "$a.", "$a..b", "$a.$b", "$a.$", "$a b", "$ ", "$ a", "$\u00e9", "$a\n", "$" + long, "$" + strings.Repeat("a.", api.MaxPath) + "a"} {
		expectRefused(t, text(s), api.ErrPath)
	}
	for _, s := range []string{"$$x.", "$$x..", "$$x.a.", "$$x..a", "$$x.$a", "$$x.$", "$$x.a b", "$$x. ", "$$x." + long, "$$x." + strings.Repeat("a.", api.MaxPath) + "a"} {
		expectRefused(t, text(s), api.ErrPath)
	}
	longest := strings.Repeat("a.", api.MaxPath-1) + "a"
	expectParse(t, text("$"+longest), pathTo(longest))
	expectParse(t, text("$$x."+longest), variableAt("x", longest))
	expectParse(t, text("$$"+long[1:]), variableAt(long[1:], ""))
	expectParse(t, text("$"+long[1:]), pathTo(long[1:]))
}

// P8.2: the order of the errors that Parse finds itself, and those of the result, which come last.
func TestParseOrder(t *testing.T) {
	parts := []struct {
		s     string
		errno api.Errno
	}{
		{`{"$x":1}`, api.ErrOp}, {`{"$sub":[1]}`, api.ErrOp}, {`{"$map":[1,2,3]}`, api.ErrOp}, {`"$$"`, api.ErrName}, {`"$"`, api.ErrPath}, {`"$$x."`, api.ErrPath},
	}
	last := []struct {
		s     string
		errno api.Errno
	}{
		{`{"a.b":1}`, api.ErrName}, {`{"$a":1,"b":2}`, api.ErrName}, {`{"$value":{"$x":1}}`, api.ErrKind}, {`{"$map":[1,"",2]}`, api.ErrName},
	}
	for _, first := range parts {
		expectRefused(t, val(first.s), first.errno)
		for _, second := range parts {
			expectRefused(t, val(`[`+first.s+`,`+second.s+`]`), first.errno)
			expectRefused(t, val(`[[1,{"$not":`+first.s+`}],`+second.s+`]`), first.errno)
			expectRefused(t, val(`{"$if":[1,`+first.s+`,`+second.s+`]}`), first.errno)
			expectRefused(t, val(`{"b":{"c":`+first.s+`},"a":`+second.s+`}`), first.errno)
			expectRefused(t, val(`{"$map":[`+first.s+`,"x",`+second.s+`]}`), first.errno)
			expectRefused(t, val(`{"$sub":[`+second.s+`]}`), api.ErrOp)
			expectRefused(t, val(`{"$add":{"a":`+second.s+`}}`), api.ErrOp)
			expectRefused(t, val(`{"$x":`+second.s+`}`), api.ErrOp)
			expectRefused(t, val(`{"$filter":[`+second.s+`,1,`+second.s+`]}`), api.ErrOp)
			expectRefused(t, val(`{"$map":[`+second.s+`,"",2]}`), second.errno)
			expectRefused(t, val(`{"$x":1,"a b":`+second.s+`}`), second.errno)
		}
		for _, second := range last {
			expectRefused(t, val(`[`+first.s+`,`+second.s+`]`), first.errno)
			expectRefused(t, val(`[`+second.s+`,`+first.s+`]`), first.errno)
			expectRefused(t, val(second.s), second.errno)
		}
	}
	expectRefused(t, val(`[{"a.b":1},{"$value":{"$x":1}}]`), api.ErrName)
	expectRefused(t, val(`[{"$value":{"$x":1}},{"a.b":1}]`), api.ErrKind)
	for _, c := range parts { // within a literal there is nothing to parse
		if strings.HasPrefix(c.s, `"`) {
			expectParse(t, val(`{"$value":`+c.s+`}`), lit(c.s))
			expectParse(t, val(`{"$value":[`+c.s+`]}`), lit(`[`+c.s+`]`))
		} else {
			expectRefused(t, val(`{"$value":`+c.s+`}`), api.ErrKind)
		}
	}
}

// P8.2: the limits of expressions, which are found last.
func TestParseLimits(t *testing.T) {
	expectParse(t, sample.Nulls(api.MaxPreds-1), node(api.ExList, times(api.MaxPreds-1, lit("null"))...))
	expectRefused(t, sample.Nulls(api.MaxPreds), api.ErrLimit)
	expectRefused(t, sample.Nulls(api.MaxNodes-1), api.ErrLimit)
	expectParse(t, only("$value", sample.Nulls(api.MaxNodes-2)), api.Expr{Op: api.ExValue, Arg: sample.Nulls(api.MaxNodes - 2)})
	expectRefused(t, only("$value", sample.Nulls(api.MaxNodes-1)), api.ErrKind)
	many := sample.Nulls(api.MaxPreds).List
	expectRefused(t, list(append(many, val(`{"$x":1}`))), api.ErrOp)
	expectRefused(t, list(append(many, text("$"))), api.ErrPath)
	expectRefused(t, list(append(many, val(`{"a b":1}`))), api.ErrLimit)
	expectRefused(t, list(append([]api.Value{val(`{"a b":1}`)}, many...)), api.ErrName)
	e := lit("null")
	for range api.MaxDepth - 1 {
		e = fieldsOf("a", e)
	}
	expectParse(t, sample.NestedDocs(api.MaxDepth, null()), e)
}
