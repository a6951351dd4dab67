package expr

import (
	"slices"
	"strings"
	"testing"
	"unsafe"

	"docstore/api"
	"docstore/sample"
)

// nestedExpr returns an expression with values, paths, names and kids at several levels. Each call returns new memory.
func nestedExpr() api.Expr {
	arg := lit(`[{"b":[1,{"c":[2]}]},[{"b":4}],"$x"]`)
	return fieldsOf("p q r s", node(api.ExList, pathTo("a.b"), arg, pathTo("a"), pathTo("a")), arg, loop(api.ExMap, arg, "x", variableAt("x", "b.c")), lit(`{"d":{"e":[5]}}`))
}

func nestedDoc() api.Value {
	return val(`{"a":[{"b":[1,{"c":[2]}]},{"b":{"c":[3]}}],"d":{"e":[[4]],"f":{"g":[5]}},"s":["x","y"]}`)
}

// cells returns the addresses of everything that an expression contains, up to the capacities of the slices.
func cells(e api.Expr) []any {
	l := sample.Cells(e.Arg)
	for _, texts := range [][]string{e.Path, e.Names} {
		l = append(l, textCells(texts)...)
	}
	for i := range e.Kids[:cap(e.Kids)] {
		kid := &e.Kids[:cap(e.Kids)][i]
		l = append(append(l, kid), cells(*kid)...)
	}
	return l
}

func textCells(texts []string) []any {
	var l []any
	for i := range texts[:cap(texts)] {
		l = append(l, &texts[:cap(texts)][i])
	}
	return l
}

// scribble overwrites everything within an expression.
func scribble(e api.Expr) {
	sample.Scribble(e.Arg)
	for _, texts := range [][]string{e.Path, e.Names} {
		for i := range texts {
			texts[i] = "scribbled"
		}
	}
	for i := range e.Kids {
		scribble(e.Kids[i])
		e.Kids[i] = node(api.ExList)
	}
}

// expectDistinct checks that no address occurs twice in the result, or in the result and the arguments.
func expectDistinct(t *testing.T, what string, result []any, args ...[]any) {
	t.Helper()
	seen := map[any]bool{}
	for _, c := range slices.Concat(args...) {
		seen[c] = true
	}
	for _, c := range result {
		if seen[c] {
			t.Errorf("%s: memory of the result occurs twice, or in an argument", what)
			return
		}
		seen[c] = true
	}
}

// sharing returns expressions whose values consist of parts of the document, of the expression, or of one value several times.
func sharing() []api.Expr {
	inner := nestedExpr()
	l := []api.Expr{inner, pathTo("a"), pathTo("a.b"), pathTo("d"), inner.Kids[1]}
	for _, s := range []string{
		`["$a","$a","$d.e","$d"]`, `{"p":"$a","q":"$a"}`, `{"$join":["$a","$a","$a.b"]}`, `{"$reverse":"$a"}`, `{"$at":["$a",0]}`, `{"$merge":["$d","$d",{"f":"$d"}]}`,
		`{"$map":["$a","x",["$$x","$$x","$a","$$x.b"]]}`, `{"$map":[[1,2],"x",{"$value":[[1],{"a":[2]}]}]}`, `{"$filter":["$a","x",true]}`, `{"$if":[1,"$a",2]}`, `{"$ifNull":["$nope","$d"]}`,
		`{"$ifNull":["$d",1]}`, `[{"$value":[[1]]},{"$value":[[1]]}]`, `{"$concat":["$s"]}`,
	} {
		e, _ := Parse(val(s))
		l = append(l, e)
	}
	return l
}

// R5: results share no memory with arguments, or within themselves.
func TestResultsShareNoMemory(t *testing.T) {
	for _, e := range sharing() {
		d := nestedDoc()
		what := brief(showExpr(e))
		expectDistinct(t, "Eval of "+what, sample.Cells(Eval(e, d)), cells(e), sample.Cells(d))
		v, errno := Build(e)
		if errno != api.OK {
			t.Errorf("Build of %s: error %d", what, errno)
		}
		expectDistinct(t, "Build of "+what, sample.Cells(v), cells(e))
		parsed, errno := Parse(v)
		if errno != api.OK {
			t.Errorf("Parse of %s: error %d", show(v), errno)
		}
		expectDistinct(t, "Parse of "+show(v), cells(parsed), sample.Cells(v))
		var steps []any
		for _, p := range Paths(e) {
			steps = append(steps, textCells(p)...)
		}
		expectDistinct(t, "Paths of "+what, steps, cells(e))
	}
	shared := lit(`[[1]]`).Arg
	v, _ := Build(node(api.ExList, api.Expr{Op: api.ExValue, Arg: shared}, api.Expr{Op: api.ExValue, Arg: shared}))
	expectDistinct(t, "Build of the same value twice", sample.Cells(v))
	parsed, _ := Parse(list([]api.Value{only("$value", shared), only("$value", shared)}))
	expectDistinct(t, "Parse of the same value twice", cells(parsed))
}

// R5: no argument is changed, and a later change of one does not change a result.
func TestArguments(t *testing.T) {
	for _, e := range sharing() {
		d := nestedDoc()
		built, _ := Build(e)
		v := copied(built)
		before := showExpr(e) + sample.Show(d) + sample.Show(v)
		Valid(e)
		value, paths := Eval(e, d), Paths(e)
		parsed, _ := Parse(v)
		Build(e)
		if showExpr(e)+sample.Show(d)+sample.Show(v) != before {
			t.Errorf("an argument was changed: %s", brief(before))
		}
		results := func() string {
			s := sample.Show(value) + sample.Show(built) + showExpr(parsed)
			for _, p := range paths {
				s += showTexts(p)
			}
			return s
		}
		before = results()
		scribble(e)
		sample.Scribble(d)
		sample.Scribble(v)
		if results() != before {
			t.Errorf("a change of an argument changed a result: %s", brief(before))
		}
	}
}

// R5: small parts of a string are no parts of its memory.
func TestPartsOfTexts(t *testing.T) {
	within := func(part, s string) bool {
		from, at := uintptr(unsafe.Pointer(unsafe.StringData(s))), uintptr(unsafe.Pointer(unsafe.StringData(part)))
		return from <= at && at < from+uintptr(len(s))
	}
	s := strings.Join([]string{"$$name", "step", "other"}, ".")
	e, errno := Parse(text(s))
	if errno != api.OK || within(e.Name, s) || within(e.Path[0], s) || within(e.Path[1], s) {
		t.Errorf("%s shares memory with the text, error %d", showExpr(e), errno)
	}
	d := only("a", text(s))
	if v := Eval(node(api.ExSlice, pathTo("a"), lit("2"), lit("4")), d); v.Text != "name" || within(v.Text, s) {
		t.Errorf("%q shares memory with the text", v.Text)
	}
}
