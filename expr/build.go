package expr

import (
	"strings"

	"docstore/api"
	"docstore/path"
	"docstore/value"
)

// Build returns the value that is parsed as an expression.
func Build(e api.Expr) (api.Value, api.Errno) {
	if errno := Valid(e); errno != api.OK {
		return api.Value{}, errno
	}
	v := build(e)
	if value.Depth(v) > api.MaxDepth || value.Nodes(v) > api.MaxNodes {
		return api.Value{}, api.ErrLimit
	}
	return v, api.OK
}

// build returns the value of a valid expression.
func build(e api.Expr) api.Value {
	kids := buildAll(e.Kids)
	switch e.Op {
	case opValue:
		return buildLiteral(e.Arg)
	case opPath:
		return text(sign + path.Text(e.Path))
	case opVar:
		return text(variableSign + path.Text(append([]string{e.Name}, e.Path...)))
	case opList:
		return list(kids)
	case opDoc:
		return document(e.Names, kids)
	case opMap, opFilter:
		kids = []api.Value{kids[0], text(e.Name), kids[1]}
	}
	operands := list(kids)
	if shapes[e.Op].kids == 1 {
		operands = kids[0]
	}
	return document([]string{shapes[e.Op].name}, []api.Value{operands})
}

func buildAll(l []api.Expr) []api.Value {
	values := make([]api.Value, len(l))
	for i, e := range l {
		values[i] = build(e)
	}
	return values
}

func buildLiteral(v api.Value) api.Value {
	v = copied(v)
	if isPlain(v) {
		return v
	}
	return document([]string{shapes[opValue].name}, []api.Value{v})
}

// isPlain reports whether a value stands for itself where an expression is expected.
func isPlain(v api.Value) bool {
	switch v.Kind {
	case api.KindText:
		return !strings.HasPrefix(v.Text, sign)
	case api.KindList:
		return false
	}
	return len(v.Doc) == 0
}
