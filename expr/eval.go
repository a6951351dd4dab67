package expr

import (
	"slices"

	"docstore/api"
	"docstore/value"
)

// Eval returns the value of an expression for a document.
func Eval(e api.Expr, doc api.Value) api.Value {
	if Valid(e) != api.OK {
		return api.Value{}
	}
	s := scope{doc: doc}
	return copied(s.eval(e))
}

// scope is where an expression is evaluated: a document, and the variables, the innermost one first. The values that it yields may share memory, which is never written.
type scope struct {
	doc  api.Value
	vars *variable
}

type variable struct {
	name  string
	value api.Value
	outer *variable
}

// with returns the scope within a further variable.
func (s scope) with(name string, v api.Value) scope {
	s.vars = &variable{name, v, s.vars}
	return s
}

func (s scope) lookUp(name string) api.Value {
	for v := s.vars; v != nil; v = v.outer {
		if v.name == name {
			return v.value
		}
	}
	return api.Value{}
}

// eval returns the value of a node, which is valid or missing.
func (s scope) eval(e api.Expr) api.Value {
	v := s.compute(e)
	switch {
	case isMissing(v):
		return api.Value{}
	case !value.Valid(v):
		return null()
	}
	return v
}

func (s scope) evalAll(l []api.Expr) []api.Value {
	values := make([]api.Value, len(l))
	for i, e := range l {
		values[i] = s.eval(e)
	}
	return values
}

// compute carries out the operator of a node. Its result may turn out to be no valid value.
func (s scope) compute(e api.Expr) api.Value {
	switch e.Op {
	case opValue:
		return e.Arg
	case opPath:
		return at(s.doc, e.Path)
	case opVar:
		return at(s.lookUp(e.Name), e.Path)
	case opAnd:
		return boolean(!slices.ContainsFunc(e.Kids, s.fails))
	case opOr:
		return boolean(slices.ContainsFunc(e.Kids, s.holds))
	case opIf:
		if s.holds(e.Kids[0]) {
			return s.eval(e.Kids[1])
		}
		return s.eval(e.Kids[2])
	case opIfNull:
		if v := s.eval(e.Kids[0]); !isNullOrMissing(v) {
			return v
		}
		return s.eval(e.Kids[1])
	case opMap:
		return s.mapped(e)
	case opFilter:
		return s.filtered(e)
	case opDoc:
		return document(e.Names, s.evalAll(e.Kids))
	}
	return apply(e.Op, s.evalAll(e.Kids))
}

// apply carries out an operator on the values of its kids, which are valid or missing.
func apply(op int, operands []api.Value) api.Value {
	switch op {
	case opAdd, opSub, opMul, opDiv, opMod:
		return calculate(op, operands)
	case opCompare, opEq, opNe, opGt, opGe, opLt, opLe:
		return compare(op, operands[0], operands[1])
	case opConcat, opLower, opUpper, opLength, opSlice:
		return workOnTexts(op, operands)
	case opSize, opAt, opIn, opJoin, opReverse, opSum:
		return workOnLists(op, operands)
	case opNot:
		return boolean(!isTrue(operands[0]))
	case opKind:
		return num(operands[0].Kind)
	case opMerge:
		return merge(operands)
	}
	return list(present(operands)) // opList
}

func (s scope) holds(e api.Expr) bool { return isTrue(s.eval(e)) }

func (s scope) fails(e api.Expr) bool { return !s.holds(e) }

// mapped returns the values of the body for the elements of a list.
func (s scope) mapped(e api.Expr) api.Value {
	l := s.eval(e.Kids[0])
	if l.Kind != api.KindList {
		return null()
	}
	var values []api.Value
	nodes := 1
	for _, element := range l.List {
		v := presentOne(s.with(e.Name, element).eval(e.Kids[1]))
		values = append(values, v)
		// A list that is too large is null, whatever follows. Going on would take long where loops are nested.
		if nodes += value.Nodes(v); nodes > api.MaxNodes {
			return null()
		}
	}
	return list(values)
}

// filtered returns the elements of a list for which the body is true.
func (s scope) filtered(e api.Expr) api.Value {
	l := s.eval(e.Kids[0])
	if l.Kind != api.KindList {
		return null()
	}
	var kept []api.Value
	for _, element := range l.List {
		if s.with(e.Name, element).holds(e.Kids[1]) {
			kept = append(kept, element)
		}
	}
	return list(kept)
}

// at returns the value at a path in a value, where a list stands for the list of what is at the path in its elements.
func at(v api.Value, p []string) api.Value {
	if len(p) == 0 {
		return v
	}
	switch v.Kind {
	case api.KindDoc:
		i := slices.IndexFunc(v.Doc, func(f api.Field) bool { return f.Name == p[0] })
		if i >= 0 {
			return at(v.Doc[i].Value, p[1:])
		}
	case api.KindList:
		var found []api.Value
		for _, element := range v.List {
			if x := at(element, p); !isMissing(x) {
				found = append(found, x)
			}
		}
		return list(found)
	}
	return api.Value{}
}
