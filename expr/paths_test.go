package expr

import (
	"math"
	"slices"
	"sort"
	"strings"
	"testing"

	"docstore/api"
	"docstore/path"
	"docstore/sample"
)

// P8.4: the value at a path, through documents and lists.
func TestValueAtPath(t *testing.T) {
	expectValues(t, `{"a":[{"b":1},{"b":2},3],"n":5,"z":null,"d":{"b":{"c":7},"0":8},"l":[[{"b":1},2],[],{"b":[3,{"b":4}]},{"c":5},null],"e":[],"m":[{"b":null},{"b":[]}]}`, []evaluation{
		{`"$a"`, `[{"b":1},{"b":2},3]`}, {`"$a.b"`, `[1,2]`}, {`"$a.c"`, `[]`}, {`"$a.b.c"`, `[]`}, {`"$nope"`, `none`}, {`"$nope.a"`, `none`},
		{`"$n"`, `5`}, {`"$n.a"`, `none`}, {`"$z"`, `null`}, {`"$z.a"`, `none`}, {`"$d.b"`, `{"c":7}`}, {`"$d.b.c"`, `7`}, {`"$d.b.c.x"`, `none`}, {`"$d.x"`, `none`}, {`"$d.0"`, `8`},
		{`"$a.0"`, `[]`}, {`"$a.0.b"`, `[]`}, {`"$l.0"`, `[[],[]]`}, {`"$l.b"`, `[[1],[],[3,{"b":4}]]`}, {`"$l.b.b"`, `[[],[],[4]]`}, {`"$l.c"`, `[[],[],5]`},
		{`"$e"`, `[]`}, {`"$e.b"`, `[]`}, {`"$m.b"`, `[null,[]]`}, {`"$m.b.c"`, `[[]]`},
	})
	for _, v := range operands() {
		expectValue(t, pathTo("a"), only("a", v.Arg), v.Arg)
		expectValue(t, pathTo("a.b.c"), only("a", only("b", only("c", v.Arg))), v.Arg)
		if v.Arg.Kind != api.KindDoc && v.Arg.Kind != api.KindList {
			expectValue(t, pathTo("a.b"), only("a", v.Arg), api.Value{})
			expectValue(t, pathTo("a.b"), only("a", list([]api.Value{only("b", num(1)), v.Arg})), val("[1]"))
		}
	}
}

// P8.4: variables, which the loops around them bind, the innermost one first.
func TestVariables(t *testing.T) {
	expectValues(t, `{"a":[1,2],"l":[{"b":1,"c":[{"d":2},{"d":3}]},{"b":4},5],"s":[3,0,4],"x":9}`, []evaluation{
		{`"$$x"`, `none`}, {`"$$x.a"`, `none`}, {`["$$x"]`, `[null]`}, {`{"$kind":"$$x"}`, `0`},
		{`{"$map":["$a","x","$$x"]}`, `[1,2]`}, {`{"$map":["$a","x",{"$mul":["$$x","$$x"]}]}`, `[1,4]`}, {`{"$map":["$a","x","$x"]}`, `[9,9]`}, {`{"$map":["$a","x","$$y"]}`, `[null,null]`},
		{`{"$map":["$l","x","$$x.b"]}`, `[1,4,null]`}, {`{"$map":["$l","x","$$x.c.d"]}`, `[[2,3],null,null]`}, {`{"$map":[{"$value":[]},"x",1]}`, `[]`},
		{`{"$map":["$a","x",{"$map":[[7,8],"x","$$x"]}]}`, `[[7,8],[7,8]]`},
		{`{"$map":["$a","x",{"$map":[[7,8],"y",["$$x","$$y"]]}]}`, `[[[1,7],[1,8]],[[2,7],[2,8]]]`},
		{`{"$map":["$a","x",{"$map":[["$$x","$$y"],"y","$$y"]}]}`, `[[1,null],[2,null]]`},
		{`{"$map":["$a","x",{"$map":[["$$x",5],"x","$$x"]}]}`, `[[1,5],[2,5]]`},
		{`{"$map":["$a","x",[{"$map":[[7],"x","$$x"]},"$$x"]]}`, `[[[7],1],[[7],2]]`},
		{`{"$map":["$a","x",{"$map":[[7],"y",{"$map":[[8],"z",["$$x","$$y","$$z"]]}]}]}`, `[[[[1,7,8]]],[[[2,7,8]]]]`},
		{`{"$map":[["$$x"],"x","$$x"]}`, `[null]`}, {`[{"$map":["$a","x","$$x"]},"$$x"]`, `[[1,2],null]`},
		{`{"$filter":["$s","x","$$x"]}`, `[3,4]`}, {`{"$filter":["$l","x","$$x.b"]}`, `[{"b":1,"c":[{"d":2},{"d":3}]},{"b":4}]`}, {`{"$filter":["$l","x",{"$gt":["$$x.b",1]}]}`, `[{"b":4}]`},
		{`{"$filter":["$s","x","$$y"]}`, `[]`}, {`{"$filter":["$s","x",true]}`, `[3,0,4]`}, {`{"$filter":[["$nope",1],"x",{"$eq":["$$x",null]}]}`, `[null]`},
		{`{"$filter":["$s","x",{"$size":{"$filter":["$a","y",{"$eq":[{"$add":["$$y",2]},"$$x"]}]}}]}`, `[3,4]`},
		{`{"$filter":["$s","x",{"$in":["$$x",{"$filter":["$s","x",{"$gt":["$$x",3]}]}]}]}`, `[4]`},
		{`{"$map":[{"$filter":["$s","x","$$x"]},"x",{"a":"$$x","b":"$$x.c"}]}`, `[{"a":3},{"a":4}]`},
	})
}

// P8.4: an expression that is not valid has no value.
func TestEvalInvalid(t *testing.T) {
	d := val(`{"a":1}`)
	for _, c := range oneErrorEach() {
		expectValue(t, c.e, d, api.Value{})
		expectValue(t, node(api.ExIf, lit("1"), lit("2"), c.e), d, api.Value{})
		expectValue(t, node(api.ExOr, lit("1"), node(api.ExNot, c.e)), d, api.Value{})
		expectValue(t, loop(api.ExMap, lit("[]"), "x", c.e), d, api.Value{})
	}
	expectValue(t, api.Expr{}, d, api.Value{})
	expectValue(t, nots(api.MaxDepth+1, lit("1")), d, api.Value{})
	expectValue(t, nots(api.MaxDepth, lit("1")), d, boolean(false))
	expectValue(t, node(api.ExAdd, times(api.MaxPreds, lit("1"))...), d, api.Value{})
	expectValue(t, node(api.ExAdd, times(api.MaxPreds-1, lit("1"))...), d, num(api.MaxPreds-1))
	expectValue(t, nots(1<<16, lit("1")), d, api.Value{})
}

// P8.4: values that the document contains and that are not valid become null, and missing ones stay so, whatever they contain.
func TestInvalidDocuments(t *testing.T) {
	for _, v := range invalid() {
		d := api.Value{Kind: api.KindDoc, Doc: []api.Field{{Name: "a", Value: v}, {Name: "b", Value: num(1)}, {Name: "b", Value: num(2)}, {Name: "$", Value: v}}}
		expectValue(t, pathTo("a"), d, null())
		expectValue(t, pathTo("b"), d, num(1))
		expectValue(t, node(api.ExList, pathTo("a"), pathTo("b")), d, val("[null,1]"))
		expectValue(t, node(api.ExKind, pathTo("a")), d, num(api.KindNull))
		expectValue(t, pathTo("b"), only("b", only("b", v)), null())
		expectValue(t, pathTo("b.b"), only("b", only("b", v)), null())
		expectValue(t, pathTo("a.b"), only("a", list([]api.Value{only("b", num(1)), only("b", v)})), null())
		expectValue(t, pathTo("a.b"), only("a", list([]api.Value{only("b", num(1)), only("c", v)})), val("[1]"))
		if v.Kind != api.KindList && v.Kind != api.KindDoc {
			expectValue(t, pathTo("a.b"), d, api.Value{})
		}
	}
	for _, v := range []api.Value{{}, {Int: 7}, {Text: "a"}, {List: []api.Value{null()}, Doc: []api.Field{{Name: "b", Value: num(1)}}}} {
		expectValue(t, pathTo("a"), only("a", v), api.Value{})
		expectValue(t, pathTo("a.b"), only("a", v), api.Value{})
		expectValue(t, node(api.ExList, pathTo("a")), only("a", v), val("[null]"))
		expectValue(t, pathTo("a"), only("a", list([]api.Value{v})), null())
		expectValue(t, pathTo("a.b"), only("a", list([]api.Value{only("b", v), only("b", num(2)), v})), val("[2]"))
		expectValue(t, pathTo("a"), v, api.Value{})
	}
	large := sample.Numbered(2 * api.MaxNodes)
	expectValue(t, pathTo("f2000"), large, num(2000))
	expectValue(t, pathTo("a.f2000"), only("a", list([]api.Value{large, large})), val("[2000,2000]"))
	expectValue(t, pathTo("a"), list([]api.Value{only("a", num(1)), list([]api.Value{only("a", num(2))}), num(3)}), val("[1,[2]]"))
}

// R1: documents of any depth and length.
func TestLargeDocuments(t *testing.T) {
	expectValue(t, pathTo("a"), only("a", sample.NestedLists(1<<16, num(1))), null())
	expectValue(t, pathTo("a"), sample.NestedDocs(1<<16, num(1)), null())
	expectValue(t, pathTo("a.b"), only("a", sample.NestedLists(1<<16, num(1))), null())
	expectValue(t, pathTo("a.b"), only("a", sample.Nulls(1<<20)), val("[]"))
	expectValue(t, pathTo("a"), only("a", sample.Nulls(1<<20)), null())
	deep := sample.NestedDocs(api.MaxPath+1, num(1))
	expectValue(t, pathTo(strings.Repeat("a.", api.MaxPath-1)+"a"), deep, num(1))
	for _, kind := range []int{math.MinInt, -1, 0, api.KindNull, api.KindText, api.KindMax, 12, math.MaxInt} {
		expectValue(t, pathTo("a"), api.Value{Kind: kind, Doc: val(`{"a":1}`).Doc, List: val(`[{"a":1}]`).List}, api.Value{})
	}
}

func expectPaths(t *testing.T, e api.Expr, want ...string) {
	t.Helper()
	var got []string
	for _, p := range Paths(e) {
		got = append(got, strings.Join(p, "."))
	}
	if !slices.Equal(got, want) {
		t.Errorf("Paths of %s: %s; expected %s", brief(showExpr(e)), brief(showTexts(got)), brief(showTexts(want)))
	}
}

// P8.5: the paths of an expression, each once, ascending by their texts.
func TestPaths(t *testing.T) {
	for _, c := range []struct {
		e    string
		want string
	}{
		{`{"$add":["$b","$a.c","$b"]}`, "a.c b"}, {`1`, ""}, {`"$a"`, "a"}, {`"$$a"`, ""}, {`"$$a.b"`, ""}, {`{"$value":"$a"}`, ""}, {`{"$value":["$a"]}`, ""}, {`[]`, ""},
		{`["$b","$a","$c","$a"]`, "a b c"}, {`["$a.b","$a","$a.b.c","$a.a"]`, "a a.a a.b a.b.c"}, {`["$a.b","$a!","$a-","$a/","$a0","$a"]`, "a a! a- a.b a/ a0"},
		{`["$10","$9","$B","$a","$~"]`, "10 9 B a ~"}, {`{"a":"$z","z":{"a":"$y"}}`, "y z"},
		{`{"$map":["$l","x",{"$add":["$$x.q","$m.n",{"$filter":["$k","x","$$x"]}]}]}`, "k l m.n"}, {`{"$if":["$c",["$b"],{"$not":"$a"}]}`, "a b c"},
		{`{"$or":[true,"$a"]}`, "a"}, {`{"$if":[true,1,"$a"]}`, "a"},
	} {
		e, errno := Parse(val(c.e))
		if errno != api.OK {
			t.Errorf("Parse of %s: error %d", c.e, errno)
		}
		expectPaths(t, e, strings.Fields(c.want)...)
	}
	for _, c := range oneErrorEach() {
		expectPaths(t, c.e)
		expectPaths(t, node(api.ExList, pathTo("a"), c.e, pathTo("b")))
	}
	expectPaths(t, api.Expr{})
	expectPaths(t, nots(api.MaxDepth, pathTo("a")), "a")
	expectPaths(t, nots(api.MaxDepth+1, pathTo("a")))
	expectPaths(t, nots(1<<16, pathTo("a")))
	expectPaths(t, node(api.ExList, times(api.MaxPreds-1, pathTo("a"))...), "a")
	expectPaths(t, node(api.ExList, times(api.MaxPreds, pathTo("a"))...))
}

// P8.5: as many paths as an expression can have.
func TestManyPaths(t *testing.T) {
	var kids []api.Expr
	var want []string
	for i := range api.MaxPreds - 1 {
		s := string([]byte{"!%-/0=@_~"[i%9], byte('a' + i%26), byte('a' + i/26)}) + strings.Repeat(".s", i%api.MaxPath)
		kids, want = append(kids, pathTo(s)), append(want, s)
	}
	sort.Strings(want)
	e := node(api.ExConcat, kids...)
	expectPaths(t, e, want...)
	for _, p := range Paths(e) {
		if !path.Valid(p) {
			t.Errorf("%q is not a valid path", p)
		}
	}
}
