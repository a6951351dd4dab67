package expr

import (
	"strings"

	"docstore/api"
	"docstore/path"
	"docstore/value"
)

// Parse parses an expression.
func Parse(v api.Value) (api.Expr, api.Errno) {
	if !isWellFormed(v) {
		return api.Expr{}, api.ErrKind
	}
	e, errno := parse(v)
	if errno == api.OK {
		errno = Valid(e)
	}
	if errno != api.OK {
		return api.Expr{}, errno
	}
	return e, api.OK
}

// parse checks no more than is needed to tell which expression a well-formed value is. With an error, the expression is of no use.
func parse(v api.Value) (api.Expr, api.Errno) {
	switch {
	case v.Kind == api.KindText && strings.HasPrefix(v.Text, variableSign):
		return parseVariable(v.Text[len(variableSign):])
	case v.Kind == api.KindText && strings.HasPrefix(v.Text, sign):
		p, errno := path.Parse(v.Text[len(sign):])
		return api.Expr{Op: opPath, Path: p}, errno
	case v.Kind == api.KindList:
		kids, errno := parseAll(v.List)
		return api.Expr{Op: opList, Kids: kids}, errno
	case len(v.Doc) == 1 && strings.HasPrefix(v.Doc[0].Name, sign):
		return parseOperator(v.Doc[0].Name, v.Doc[0].Value)
	case len(v.Doc) > 0:
		names, values := split(v.Doc)
		kids, errno := parseAll(values)
		return api.Expr{Op: opDoc, Names: names, Kids: kids}, errno
	}
	return literal(v), api.OK
}

func parseAll(values []api.Value) ([]api.Expr, api.Errno) {
	kids := make([]api.Expr, len(values))
	for i, v := range values {
		kid, errno := parse(v)
		if errno != api.OK {
			return nil, errno
		}
		kids[i] = kid
	}
	return kids, api.OK
}

// parseVariable parses what follows the sign of a variable.
func parseVariable(s string) (api.Expr, api.Errno) {
	name, text, found := strings.Cut(s, separator)
	if !isName(name) {
		return api.Expr{}, api.ErrName
	}
	e := api.Expr{Op: opVar, Name: strings.Clone(name)} // a part of s would keep all of it in memory
	errno := api.OK
	if found {
		e.Path, errno = path.Parse(text)
	}
	return e, errno
}

// parseOperator parses the value of the field that has the name of an operator.
func parseOperator(name string, v api.Value) (api.Expr, api.Errno) {
	op := operatorNamed(name)
	switch op {
	case 0:
		return api.Expr{}, api.ErrOp
	case opValue:
		return literal(v), api.OK
	case opMap, opFilter:
		return parseLoop(op, v)
	}
	operands := []api.Value{v}
	if shapes[op].kids != 1 {
		if v.Kind != api.KindList || !fits(op, len(v.List)) {
			return api.Expr{}, api.ErrOp
		}
		operands = v.List
	}
	kids, errno := parseAll(operands)
	return api.Expr{Op: op, Kids: kids}, errno
}

// parseLoop parses a list, the name of the variable that stands for its elements, and the body.
func parseLoop(op int, v api.Value) (api.Expr, api.Errno) {
	if v.Kind != api.KindList || len(v.List) != 3 || v.List[1].Kind != api.KindText {
		return api.Expr{}, api.ErrOp
	}
	kids, errno := parseAll([]api.Value{v.List[0], v.List[2]})
	return api.Expr{Op: op, Name: v.List[1].Text, Kids: kids}, errno
}

func literal(v api.Value) api.Expr {
	return api.Expr{Op: opValue, Arg: copied(v)}
}

// copied returns a copy of a value at every level: what path.Get returns shares no memory with its argument.
func copied(v api.Value) api.Value {
	return path.Get(v, nil)
}

// split returns the names and the values of fields.
func split(fields []api.Field) ([]string, []api.Value) {
	names := make([]string, len(fields))
	values := make([]api.Value, len(fields))
	for i, f := range fields {
		names[i], values[i] = f.Name, f.Value
	}
	return names, values
}

const maxFieldBytes = 128

// isWellFormed reports whether a value is well-formed, which layer 5 defines: it is valid, but the names of its fields may also be those of operators.
func isWellFormed(v api.Value) bool {
	// The limits come first: they bound the work of the other checks.
	return value.Nodes(v) <= api.MaxNodes && value.Depth(v) <= api.MaxDepth && isSound(v)
}

// isSound reports whether a value and its parts fulfil the conditions of their kinds. Without its parts, a value is asked to fulfil those of value.Valid, since only the names of fields have other ones here.
func isSound(v api.Value) bool {
	var parts []api.Value
	switch v.Kind {
	case api.KindList:
		parts, v.List = v.List, nil
	case api.KindDoc:
		var names []string
		names, parts = split(v.Doc)
		v.Doc = nil
		if !areDistinct(names, isFieldName) {
			return false
		}
	}
	if !value.Valid(v) {
		return false
	}
	for _, p := range parts {
		if !isSound(p) {
			return false
		}
	}
	return true
}

// isFieldName reports whether a string is the name of a field of a well-formed document.
func isFieldName(s string) bool {
	if len(s) == 0 || len(s) > maxFieldBytes {
		return false
	}
	for i := range len(s) {
		if s[i] < 0x20 || s[i] > 0x7e {
			return false
		}
	}
	return true
}
