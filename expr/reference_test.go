package expr

import (
	"math/big"
	"strings"

	"docstore/api"
	"docstore/value"
)

// reference evaluates a valid expression as the chapter describes it: it evaluates all kids before their node, computes with integers that know no limits, and sets fields by value.Set.
func reference(e api.Expr, doc api.Value, vars map[string]api.Value) api.Value {
	v := referenceNode(e, doc, vars)
	if v.Kind == api.KindNone {
		return api.Value{}
	}
	if !value.Valid(v) {
		return null()
	}
	return v
}

func referenceNode(e api.Expr, doc api.Value, vars map[string]api.Value) api.Value {
	if e.Op == api.ExMap || e.Op == api.ExFilter {
		return referenceLoop(e, doc, vars)
	}
	var k []api.Value
	for _, kid := range e.Kids {
		k = append(k, reference(kid, doc, vars))
	}
	switch e.Op {
	case api.ExValue:
		return e.Arg
	case api.ExPath:
		return referenceAt(doc, e.Path)
	case api.ExVar:
		return referenceAt(vars[e.Name], e.Path)
	case api.ExAdd, api.ExSub, api.ExMul, api.ExDiv, api.ExMod:
		return referenceNumber(e.Op, k)
	case api.ExCompare:
		return num(value.Compare(k[0], k[1]))
	case api.ExEq, api.ExNe, api.ExGt, api.ExGe, api.ExLt, api.ExLe:
		signs := map[int]string{api.ExEq: "=", api.ExNe: "<>", api.ExGt: ">", api.ExGe: ">=", api.ExLt: "<", api.ExLe: "<="}
		return boolean(strings.Contains(signs[e.Op], "<=>"[value.Compare(k[0], k[1])+1:][:1]))
	case api.ExAnd, api.ExOr, api.ExNot, api.ExIf, api.ExIfNull:
		return referenceChoice(e.Op, k)
	case api.ExConcat, api.ExLower, api.ExUpper, api.ExLength, api.ExSlice:
		return referenceText(e.Op, k)
	case api.ExSize, api.ExAt, api.ExIn, api.ExJoin, api.ExReverse, api.ExSum:
		return referenceList(e.Op, k)
	}
	return referenceMade(e, k)
}

func referenceTrue(v api.Value) bool {
	return v.Kind != api.KindNone && !identical(v, val("false")) && !identical(v, val("0")) && !identical(v, val("null"))
}

func referenceLoop(e api.Expr, doc api.Value, vars map[string]api.Value) api.Value {
	l := reference(e.Kids[0], doc, vars)
	if l.Kind != api.KindList {
		return null()
	}
	result := val("[]")
	for _, element := range l.List {
		inner := map[string]api.Value{}
		for name, v := range vars {
			inner[name] = v
		}
		inner[e.Name] = element
		v := reference(e.Kids[1], doc, inner)
		switch {
		case e.Op == api.ExMap && v.Kind == api.KindNone:
			result.List = append(result.List, null())
		case e.Op == api.ExMap:
			result.List = append(result.List, v)
		case referenceTrue(v):
			result.List = append(result.List, element)
		}
	}
	return result
}

func referenceAt(v api.Value, p []string) api.Value {
	switch {
	case len(p) == 0:
		return v
	case v.Kind == api.KindDoc:
		inner, _ := value.Get(v, p[0])
		return referenceAt(inner, p[1:])
	case v.Kind != api.KindList:
		return api.Value{}
	}
	result := val("[]")
	for _, element := range v.List {
		if inner := referenceAt(element, p); inner.Kind != api.KindNone {
			result.List = append(result.List, inner)
		}
	}
	return result
}

func referenceNumber(op int, k []api.Value) api.Value {
	var n []*big.Int
	for _, v := range k {
		if v.Kind != api.KindInt {
			return null()
		}
		n = append(n, big.NewInt(int64(v.Int)))
	}
	total := big.NewInt(int64(op-api.ExAdd) / 2) // 0 for a sum, 1 for a product
	switch op {
	case api.ExSub:
		return num(wrapped(total.Sub(n[0], n[1])))
	case api.ExDiv, api.ExMod:
		if n[1].Sign() == 0 {
			return null()
		}
		quotient := floored(n[0], n[1])
		if op == api.ExDiv {
			return num(wrapped(quotient))
		}
		return num(wrapped(total.Sub(n[0], total.Mul(n[1], quotient))))
	}
	for _, x := range n {
		if op == api.ExAdd {
			total.Add(total, x)
		} else {
			total.Mul(total, x)
		}
	}
	return num(wrapped(total))
}

func referenceChoice(op int, k []api.Value) api.Value {
	truths := 0
	for _, v := range k {
		if referenceTrue(v) {
			truths++
		}
	}
	switch op {
	case api.ExAnd:
		return boolean(truths == len(k))
	case api.ExOr:
		return boolean(truths > 0)
	case api.ExNot:
		return boolean(truths == 0)
	case api.ExIf:
		if referenceTrue(k[0]) {
			return k[1]
		}
		return k[2]
	}
	if k[0].Kind == api.KindNone || k[0].Kind == api.KindNull {
		return k[1]
	}
	return k[0]
}

func referenceText(op int, k []api.Value) api.Value {
	s := ""
	for i, v := range k {
		want := api.KindText
		if op == api.ExSlice && i > 0 {
			want = api.KindInt
		}
		if v.Kind != want {
			return null()
		}
		s += v.Text
	}
	var b []byte
	for i := range len(s) {
		c := s[i]
		switch {
		case op == api.ExLower && c >= 'A' && c <= 'Z', op == api.ExUpper && c >= 'a' && c <= 'z':
			b = append(b, c^0x20)
		case op != api.ExSlice || i >= k[1].Int && i-k[1].Int < k[2].Int:
			b = append(b, c)
		}
	}
	switch {
	case op == api.ExLength:
		return num(len(s))
	case op == api.ExSlice && (k[1].Int < 0 || k[2].Int < 0):
		return null()
	}
	return text(string(b))
}

func referenceList(op int, k []api.Value) api.Value {
	joined := val("[]")
	for i, v := range k {
		switch {
		case op == api.ExAt && i == 1:
			if v.Kind != api.KindInt {
				return null()
			}
		case op == api.ExIn && i == 0:
		case v.Kind != api.KindList:
			return null()
		default:
			joined.List = append(joined.List, v.List...)
		}
	}
	n := len(joined.List)
	backward, total, found := val("[]"), 0, false
	for i, v := range joined.List {
		backward.List = append(backward.List, joined.List[n-1-i])
		if v.Kind == api.KindInt {
			total += v.Int
		}
		found = found || identical(v, k[0])
		if op == api.ExAt && (i == k[1].Int || i-n == k[1].Int) {
			return v
		}
	}
	switch op {
	case api.ExSize:
		return num(n)
	case api.ExAt:
		return api.Value{}
	case api.ExIn:
		return boolean(found)
	case api.ExReverse:
		return backward
	case api.ExSum:
		return num(total)
	}
	return joined
}

func referenceMade(e api.Expr, k []api.Value) api.Value {
	made := val("{}")
	for i, v := range k {
		switch {
		case e.Op == api.ExKind:
			return num(v.Kind)
		case e.Op == api.ExDoc && v.Kind != api.KindNone:
			made.Doc = append(made.Doc, api.Field{Name: e.Names[i], Value: v})
		case e.Op == api.ExList && v.Kind == api.KindNone:
			made.List = append(made.List, null())
		case e.Op == api.ExList:
			made.List = append(made.List, v)
		case e.Op == api.ExMerge && v.Kind == api.KindDoc:
			for _, f := range v.Doc {
				made = value.Set(made, f.Name, f.Value)
			}
		case e.Op == api.ExMerge && v.Kind != api.KindNone && v.Kind != api.KindNull:
			return null()
		}
	}
	if e.Op == api.ExList {
		made.Kind = api.KindList
	}
	return made
}
