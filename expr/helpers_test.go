package expr

import (
	"math"
	"math/rand/v2"
	"strconv"
	"strings"
	"testing"

	"docstore/api"
	"docstore/notation"
	"docstore/sample"
	"docstore/value"
)

// val returns the value with a text in the notation of layer 5, where none is the missing value.
func val(s string) api.Value {
	if s == "none" {
		return api.Value{}
	}
	v, at, errno := notation.Parse(s)
	if errno != api.OK {
		panic("no value: " + s + ", byte " + strconv.Itoa(at))
	}
	return v
}

// lit returns an ExValue.
func lit(s string) api.Expr { return api.Expr{Op: api.ExValue, Arg: val(s)} }

// pathTo returns an ExPath; the steps are separated by periods.
func pathTo(s string) api.Expr { return api.Expr{Op: api.ExPath, Path: steps(s)} }

// variableAt returns an ExVar with such a path, or without one.
func variableAt(name, s string) api.Expr {
	return api.Expr{Op: api.ExVar, Name: name, Path: steps(s)}
}

func steps(s string) []string {
	if s == "" {
		return nil
	}
	return strings.Split(s, ".")
}

func node(op int, kids ...api.Expr) api.Expr { return api.Expr{Op: op, Kids: kids} }

func loop(op int, l api.Expr, name string, body api.Expr) api.Expr {
	return api.Expr{Op: op, Name: name, Kids: []api.Expr{l, body}}
}

// fieldsOf returns a document; the names are separated by blanks.
func fieldsOf(names string, kids ...api.Expr) api.Expr {
	return api.Expr{Op: api.ExDoc, Names: strings.Fields(names), Kids: kids}
}

// nots returns an expression of a number of levels around an inner one of one level.
func nots(levels int, inner api.Expr) api.Expr {
	for range levels - 1 {
		inner = node(api.ExNot, inner)
	}
	return inner
}

// times returns the same kid several times.
func times(n int, kid api.Expr) []api.Expr {
	l := make([]api.Expr, n)
	for i := range l {
		l[i] = kid
	}
	return l
}

// showExpr writes every field of the struct at every level, so that expressions are identical exactly if it returns the same string for both.
func showExpr(e api.Expr) string {
	s := "<" + strconv.Itoa(e.Op) + " " + showTexts(e.Path) + " " + strconv.Quote(e.Name) + " " + showTexts(e.Names) + " " + sample.Show(e.Arg) + " " + strconv.Itoa(e.N)
	for _, kid := range e.Kids {
		s += " " + showExpr(kid)
	}
	return s + ">"
}

func showTexts(l []string) string {
	quoted := make([]string, len(l))
	for i, s := range l {
		quoted[i] = strconv.Quote(s)
	}
	return "[" + strings.Join(quoted, " ") + "]"
}

// brief shortens a string for a message.
func brief(s string) string {
	if len(s) > 300 {
		return s[:200] + " .. " + s[len(s)-90:]
	}
	return s
}

func show(v api.Value) string { return brief(sample.Show(v)) }

func identical(a, b api.Value) bool { return sample.Show(a) == sample.Show(b) }

func identicalExprs(a, b api.Expr) bool { return showExpr(a) == showExpr(b) }

func expectValid(t *testing.T, e api.Expr, want api.Errno) {
	t.Helper()
	if errno := Valid(e); errno != want {
		t.Errorf("Valid of %s: error %d; expected %d", brief(showExpr(e)), errno, want)
	}
}

func expectParse(t *testing.T, v api.Value, want api.Expr) {
	t.Helper()
	if e, errno := Parse(v); errno != api.OK || !identicalExprs(e, want) {
		t.Errorf("Parse of %s: %s, error %d; expected %s", show(v), brief(showExpr(e)), errno, brief(showExpr(want)))
	}
}

// expectRefused checks that Parse returns an error and no expression.
func expectRefused(t *testing.T, v api.Value, want api.Errno) {
	t.Helper()
	if e, errno := Parse(v); errno != want || !identicalExprs(e, api.Expr{}) {
		t.Errorf("Parse of %s: %s, error %d; expected error %d", show(v), brief(showExpr(e)), errno, want)
	}
}

// expectBuild checks the value that Build returns, or that it returns an error and no value.
func expectBuild(t *testing.T, e api.Expr, want api.Value, wantErrno api.Errno) {
	t.Helper()
	if v, errno := Build(e); errno != wantErrno || !identical(v, want) {
		t.Errorf("Build of %s: %s, error %d; expected %s, error %d", brief(showExpr(e)), show(v), errno, show(want), wantErrno)
	}
}

func expectValue(t *testing.T, e api.Expr, doc, want api.Value) {
	t.Helper()
	if v := Eval(e, doc); !identical(v, want) {
		t.Errorf("the value of %s for %s: %s; expected %s", brief(showExpr(e)), show(doc), show(v), show(want))
	}
}

// evaluation is the text of an expression and the text of its value.
type evaluation struct {
	e, want string
}

// expectValues evaluates expressions, which Parse reads, for a document.
func expectValues(t *testing.T, doc string, l []evaluation) {
	t.Helper()
	for _, c := range l {
		e, errno := Parse(val(c.e))
		if errno != api.OK {
			t.Errorf("Parse of %s: error %d", c.e, errno)
		}
		if v := Eval(e, val(doc)); !identical(v, val(c.want)) {
			t.Errorf("the value of %s for %s: %s; expected %s", c.e, doc, show(v), c.want)
		}
	}
}

// pool returns texts of valid values of every kind, which differ from each other, in no particular order.
func pool() []string {
	return []string{
		`null`, `true`, `false`, `0`, `1`, `-1`, `9223372036854775807`, `-9223372036854775808`,
		`""`, `"a"`, `"Ab$"`, `"b"`, `"null"`, `"é"`,
		`{"$min":1}`, `{"$max":1}`, `{"$time":0}`, `{"$time":1}`, `{"$bytes":""}`, `{"$bytes":"2461"}`, `{"$id":"242424242424242424242424"}`,
		`[]`, `[1]`, `[2,null]`, `[[],{}]`, `["$a"]`, `{}`, `{"a":1}`, `{"a":2,"b":[]}`, `{"b":{"a":null}}`,
	}
}

// invalid returns values that are neither valid nor missing.
func invalid() []api.Value {
	long := text(strings.Repeat("a", api.MaxText+1))
	twice := api.Value{Kind: api.KindDoc, Doc: []api.Field{{Name: "a", Value: num(1)}, {Name: "a", Value: num(1)}}}
	return []api.Value{
		{Kind: -1}, {Kind: 12}, {Kind: math.MaxInt}, {Kind: math.MinInt},
		{Kind: api.KindBool, Int: 2}, {Kind: api.KindTime, Int: -1}, {Kind: api.KindNull, Int: 1}, {Kind: api.KindInt, Text: "a"},
		{Kind: api.KindID}, {Kind: api.KindID, Text: "0123456789abc"}, text("\xff"), text("\xc3"), long,
		{Kind: api.KindList, Int: 1}, list([]api.Value{{}}), list([]api.Value{long}), twice,
		{Kind: api.KindDoc, Doc: []api.Field{{Name: "$a", Value: num(1)}}}, {Kind: api.KindDoc, Doc: []api.Field{{Name: "a"}}},
		sample.NestedLists(api.MaxDepth+1, num(1)), sample.NestedDocs(api.MaxDepth+1, num(1)), sample.Nulls(api.MaxNodes), sample.Numbered(api.MaxNodes),
	}
}

// The pools contain what they promise.
func TestPools(t *testing.T) {
	for i, s := range pool() {
		if !value.Valid(val(s)) {
			t.Errorf("%s is not valid", s)
		}
		for _, other := range pool()[:i] {
			if identical(val(s), val(other)) {
				t.Errorf("%s and %s are the same", s, other)
			}
		}
	}
	for _, v := range invalid() {
		if value.Valid(v) || v.Kind == api.KindNone {
			t.Errorf("%s is valid or missing", show(v))
		}
	}
}

// randomValue returns a valid value with at most the given number of levels.
func randomValue(r *rand.Rand, levels int) api.Value {
	switch kind := r.IntN(10); {
	case levels > 1 && kind > 7:
		l := list(nil)
		for range r.IntN(4) {
			l.List = append(l.List, randomValue(r, levels-1))
		}
		return l
	case levels > 1 && kind > 5:
		d := val("{}")
		for _, name := range []string{"a", "b", "c"} {
			if r.IntN(2) == 0 {
				d = value.Set(d, name, randomValue(r, levels-1))
			}
		}
		return d
	case kind > 2:
		return num(r.IntN(7) - 3)
	}
	return val(pool()[r.IntN(len(pool()))])
}

// randomDoc returns a document with some of the fields a, b and c.
func randomDoc(r *rand.Rand) api.Value {
	for {
		if d := randomValue(r, 4); d.Kind == api.KindDoc {
			return d
		}
	}
}

// randomExpr returns a valid expression with at most the given number of levels.
func randomExpr(r *rand.Rand, levels int) api.Expr {
	names := []string{"a", "b", "c"}
	op := 1 + r.IntN(api.ExLast)
	if levels == 1 {
		op = 1 + r.IntN(3)
	}
	e := api.Expr{Op: op}
	switch op {
	case api.ExValue:
		e.Arg = randomValue(r, 3)
	case api.ExPath:
		e.Path = append([]string{names[r.IntN(3)]}, names[r.IntN(3):][:r.IntN(2)]...)
	case api.ExVar:
		e.Name, e.Path = names[r.IntN(2)], names[r.IntN(3):][:r.IntN(2)]
	case api.ExMap, api.ExFilter:
		e.Name = names[r.IntN(2)]
	case api.ExDoc:
		e.Names = names[r.IntN(3):]
	}
	for range randomKids(r, e) {
		e.Kids = append(e.Kids, randomExpr(r, levels-1))
	}
	return e
}

func randomKids(r *rand.Rand, e api.Expr) int {
	if e.Op == api.ExDoc {
		return len(e.Names)
	}
	if n := kidsOf(e.Op); n >= 0 {
		return n
	}
	return r.IntN(4)
}

// kidsOf returns the number of kids of an operator as the chapter lists it, or -1 for any number.
func kidsOf(op int) int {
	switch op {
	case api.ExValue, api.ExPath, api.ExVar:
		return 0
	case api.ExNot, api.ExLower, api.ExUpper, api.ExLength, api.ExSize, api.ExReverse, api.ExSum, api.ExKind:
		return 1
	case api.ExIf, api.ExSlice:
		return 3
	case api.ExAdd, api.ExMul, api.ExAnd, api.ExOr, api.ExConcat, api.ExJoin, api.ExMerge, api.ExList, api.ExDoc:
		return -1
	}
	return 2
}

// sampleOf returns a valid expression with an operator.
func sampleOf(op int) api.Expr {
	e := node(op, times(max(kidsOf(op), 0), lit("1"))...)
	switch op {
	case api.ExValue:
		e.Arg = num(1)
	case api.ExPath:
		e.Path = []string{"a"}
	case api.ExVar, api.ExMap, api.ExFilter:
		e.Name = "x"
	case api.ExDoc:
		e.Names, e.Kids = []string{"a"}, []api.Expr{lit("1")}
	}
	return e
}

// P8.1: the operators are numbered as in package api.
func TestNumbers(t *testing.T) {
	for i, c := range []struct{ op, want int }{
		{opValue, api.ExValue}, {opPath, api.ExPath}, {opVar, api.ExVar}, {opAdd, api.ExAdd}, {opSub, api.ExSub}, {opMul, api.ExMul},
		{opDiv, api.ExDiv}, {opMod, api.ExMod}, {opCompare, api.ExCompare}, {opEq, api.ExEq}, {opNe, api.ExNe}, {opGt, api.ExGt},
		{opGe, api.ExGe}, {opLt, api.ExLt}, {opLe, api.ExLe}, {opAnd, api.ExAnd}, {opOr, api.ExOr}, {opNot, api.ExNot}, {opIf, api.ExIf},
		{opIfNull, api.ExIfNull}, {opConcat, api.ExConcat}, {opLower, api.ExLower}, {opUpper, api.ExUpper}, {opLength, api.ExLength},
		{opSlice, api.ExSlice}, {opSize, api.ExSize}, {opAt, api.ExAt}, {opIn, api.ExIn}, {opJoin, api.ExJoin}, {opReverse, api.ExReverse},
		{opSum, api.ExSum}, {opMap, api.ExMap}, {opFilter, api.ExFilter}, {opDoc, api.ExDoc}, {opList, api.ExList}, {opKind, api.ExKind},
		{opMerge, api.ExMerge},
	} {
		if c.op != c.want || c.op != i+1 {
			t.Errorf("the operator %d has the number %d", c.want, c.op)
		}
	}
	if len(shapes) != api.ExLast+1 {
		t.Errorf("%d shapes", len(shapes))
	}
}
