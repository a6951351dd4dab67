package expr

import (
	"math"
	"slices"
	"testing"

	"docstore/api"
	"docstore/sample"
	"docstore/value"
)

// P8.4: the operators on lists.
func TestLists(t *testing.T) {
	expectValues(t, `{"a":[1,"x",null,[2],3],"e":[],"s":"abc","n":2,"z":null}`, []evaluation{
		{`{"$size":"$a"}`, `5`}, {`{"$size":"$e"}`, `0`}, {`{"$size":["$nope"]}`, `1`},
		{`{"$reverse":"$a"}`, `[3,[2],null,"x",1]`}, {`{"$reverse":"$e"}`, `[]`}, {`{"$reverse":[1,"$nope"]}`, `[null,1]`},
		{`{"$sum":"$a"}`, `4`}, {`{"$sum":"$e"}`, `0`}, {`{"$sum":[9223372036854775807,1,true,{"$time":5},"7"]}`, `-9223372036854775808`}, {`{"$sum":["$nope",2]}`, `2`},
		{`{"$join":[]}`, `[]`}, {`{"$join":["$a"]}`, `[1,"x",null,[2],3]`}, {`{"$join":["$e","$a",["$n"],"$e",[["$n"]]]}`, `[1,"x",null,[2],3,2,[2]]`},
		{`{"$join":["$a","$s"]}`, `null`}, {`{"$join":["$a","$nope"]}`, `null`}, {`{"$join":["$z"]}`, `null`},
		{`{"$at":["$a",0]}`, `1`}, {`{"$at":["$a",4]}`, `3`}, {`{"$at":["$a",5]}`, `none`}, {`{"$at":["$a",-1]}`, `3`}, {`{"$at":["$a",-5]}`, `1`}, {`{"$at":["$a",-6]}`, `none`}, {`{"$at":["$a",2]}`, `null`},
		{`{"$at":["$e",0]}`, `none`}, {`{"$at":["$e",-1]}`, `none`}, {`{"$at":["$a",9223372036854775807]}`, `none`}, {`{"$at":["$a",-9223372036854775808]}`, `none`},
		{`{"$at":["$a","$z"]}`, `null`}, {`{"$at":["$a","$nope"]}`, `null`}, {`{"$at":["$s",0]}`, `null`}, {`{"$at":["$nope",0]}`, `null`}, {`{"$at":["$e","1"]}`, `null`},
		{`{"$in":["x","$a"]}`, `true`}, {`{"$in":[2,"$a"]}`, `false`}, {`{"$in":[{"$value":[2]},"$a"]}`, `true`}, {`{"$in":["$z","$a"]}`, `true`}, {`{"$in":["$nope","$a"]}`, `false`}, {`{"$in":[1,"$e"]}`, `false`},
		{`{"$in":["$nope",["$nope"]]}`, `false`}, {`{"$in":["$z",["$nope"]]}`, `true`}, {`{"$in":[2,"$n"]}`, `null`}, {`{"$in":["$nope","$nope"]}`, `null`}, {`{"$in":["a","$s"]}`, `null`}, {`{"$in":["$a",["$a"]]}`, `true`},
	})
}

// P8.4: operands of other kinds.
func TestListsOtherKinds(t *testing.T) {
	for _, e := range operands() {
		if e.Arg.Kind != api.KindList {
			for _, op := range []int{api.ExSize, api.ExReverse, api.ExSum, api.ExJoin} {
				expectValue(t, node(op, e), val("{}"), null())
			}
			expectValue(t, node(api.ExJoin, lit("[1]"), e), val("{}"), null())
			expectValue(t, node(api.ExJoin, e, lit("[1]")), val("{}"), null())
			expectValue(t, node(api.ExAt, e, lit("0")), val("{}"), null())
			expectValue(t, node(api.ExIn, lit("1"), e), val("{}"), null())
			expectValue(t, node(api.ExIn, e, e), val("{}"), null())
			expectValue(t, loop(api.ExMap, e, "x", lit("1")), val("{}"), null())
			expectValue(t, loop(api.ExFilter, e, "x", lit("1")), val("{}"), null())
		}
		if e.Arg.Kind != api.KindInt {
			expectValue(t, node(api.ExAt, lit("[1,2]"), e), val("{}"), null())
			expectValue(t, node(api.ExAt, lit("[]"), e), val("{}"), null())
		}
	}
}

// P8.4: every index, and whether each value is in lists of values of all kinds.
func TestElements(t *testing.T) {
	var all []api.Value
	for _, s := range pool() {
		all = append(all, val(s))
	}
	n := len(all)
	for _, i := range []int{math.MinInt, math.MinInt + 1, -n - 1, -n, 1 - n, -2, -1, 0, 1, 2, n - 1, n, n + 1, math.MaxInt} {
		want := api.Value{}
		switch {
		case i >= 0 && i < n:
			want = all[i]
		case i < 0 && i >= -n:
			want = all[n+i]
		}
		expectValue(t, node(api.ExAt, api.Expr{Op: api.ExValue, Arg: list(all)}, ints(i)[0]), val("{}"), want)
	}
	for i, v := range all {
		e := api.Expr{Op: api.ExValue, Arg: v}
		others := slices.Delete(slices.Clone(all), i, i+1)
		expectValue(t, node(api.ExIn, e, api.Expr{Op: api.ExValue, Arg: list(all)}), val("{}"), val("true"))
		expectValue(t, node(api.ExIn, e, api.Expr{Op: api.ExValue, Arg: list(others)}), val("{}"), val("false"))
		expectValue(t, node(api.ExIn, pathTo("nope"), api.Expr{Op: api.ExValue, Arg: list(all)}), val("{}"), val("false"))
	}
}

// P8.4: lists and documents that are made of the values of kids.
func TestMade(t *testing.T) {
	expectValues(t, `{"a":1,"z":null,"d":{"k":1,"l":[2]}}`, []evaluation{
		{`[]`, `[]`}, {`["$a"]`, `[1]`}, {`["$nope","$z",["$nope"],"$a"]`, `[null,null,[null],1]`},
		{`{"u":"$a"}`, `{"u":1}`}, {`{"u":"$nope"}`, `{}`}, {`{"u":"$nope","v":"$z","a":{"b":"$nope","c":"$d"}}`, `{"v":null,"a":{"c":{"k":1,"l":[2]}}}`},
		{`{"b":1,"a":2}`, `{"b":1,"a":2}`}, {`{"u":{"$add":["x"]}}`, `{"u":null}`},
		{`{"$merge":[]}`, `{}`}, {`{"$merge":["$z","$nope"]}`, `{}`}, {`{"$merge":["$d"]}`, `{"k":1,"l":[2]}`}, {`{"$merge":[{},"$d"]}`, `{"k":1,"l":[2]}`},
		{`{"$merge":["$z","$d","$nope",{"m":"$a","k":5},{"m":6}]}`, `{"k":5,"l":[2],"m":6}`}, {`{"$merge":[{"l":"$nope"},"$d"]}`, `{"k":1,"l":[2]}`},
		{`{"$merge":[{"a":{"b":1}},{"a":{"c":1}}]}`, `{"a":{"c":1}}`}, {`{"$merge":[{"a":1},{"a":null}]}`, `{"a":null}`},
		{`{"$merge":["$d","$a"]}`, `null`}, {`{"$merge":["$a","$d"]}`, `null`}, {`{"$merge":[["$d"]]}`, `null`}, {`{"$merge":["$d",false]}`, `null`},
		{`{"$value":["$a",{"b":"$a"}]}`, `["$a",{"b":"$a"}]`}, {`{}`, `{}`},
	})
	for _, e := range operands() {
		expectValue(t, node(api.ExKind, e), val("{}"), num(e.Arg.Kind))
		want := e.Arg
		if e.Op == api.ExPath {
			want = null()
		}
		expectValue(t, node(api.ExList, e, e), val("{}"), list([]api.Value{want, want}))
		switch want.Kind {
		case api.KindDoc:
			expectValue(t, node(api.ExMerge, e, lit("null"), e), val("{}"), want)
		case api.KindNull:
			expectValue(t, node(api.ExMerge, e, lit(`{"a":1}`), e), val("{}"), val(`{"a":1}`))
		default:
			expectValue(t, node(api.ExMerge, e), val("{}"), null())
			expectValue(t, node(api.ExMerge, lit("{}"), e), val("{}"), null())
		}
	}
}

// P8.4: values that are too large become null, at their node.
func TestLargeValues(t *testing.T) {
	nulls := func(n int) api.Expr { return api.Expr{Op: api.ExValue, Arg: sample.Nulls(n)} }
	half, most := api.MaxNodes/2, api.MaxNodes-1
	expectValue(t, node(api.ExJoin, nulls(half), nulls(half-1)), val("{}"), sample.Nulls(most))
	expectValue(t, node(api.ExJoin, nulls(half), nulls(half)), val("{}"), null())
	expectValue(t, node(api.ExSize, node(api.ExJoin, nulls(half), nulls(half))), val("{}"), null())
	expectValue(t, node(api.ExList, nulls(most-1)), val("{}"), list([]api.Value{sample.Nulls(most - 1)}))
	expectValue(t, node(api.ExList, nulls(most)), val("{}"), null())
	expectValue(t, node(api.ExKind, node(api.ExList, nulls(most))), val("{}"), num(api.KindNull))
	expectValue(t, fieldsOf("a", nulls(most)), val("{}"), null())
	expectValue(t, node(api.ExMerge, fieldsOf("a", nulls(half-1)), fieldsOf("b", nulls(half-1))), val("{}"), null())
	expectValue(t, node(api.ExMerge, fieldsOf("a", nulls(half-1)), fieldsOf("a", nulls(half))), val("{}"), only("a", sample.Nulls(half)))
	expectValue(t, loop(api.ExMap, nulls(most), "x", variableAt("x", "")), val("{}"), sample.Nulls(most))
	expectValue(t, loop(api.ExMap, nulls(most), "x", node(api.ExList)), val("{}"), list(slices.Repeat([]api.Value{val("[]")}, most)))
	expectValue(t, loop(api.ExMap, nulls(half), "x", node(api.ExList, lit("1"))), val("{}"), null())
	expectValue(t, loop(api.ExMap, nulls(half-1), "x", node(api.ExList, lit("1"))), val("{}"), list(slices.Repeat([]api.Value{val("[1]")}, half-1)))
	expectValue(t, loop(api.ExFilter, nulls(most), "x", lit("1")), val("{}"), sample.Nulls(most))
	deepest := api.Expr{Op: api.ExValue, Arg: sample.NestedLists(api.MaxDepth, num(1))}
	expectValue(t, deepest, val("{}"), deepest.Arg)
	expectValue(t, node(api.ExList, deepest), val("{}"), null())
	expectValue(t, fieldsOf("a", deepest), val("{}"), null())
	expectValue(t, node(api.ExList, lit("1"), node(api.ExList, deepest)), val("{}"), val("[1,null]"))
	expectValue(t, loop(api.ExMap, lit("[1,2]"), "x", deepest), val("{}"), null())
	expectValue(t, node(api.ExAt, deepest, lit("0")), val("{}"), sample.NestedLists(api.MaxDepth-1, num(1)))
}

// R1: merging many documents with many fields, and loops within loops over long lists, end soon.
func TestLargeWork(t *testing.T) {
	var kids []api.Expr
	for i := range api.MaxPreds - 1 {
		d := sample.Numbered(api.MaxNodes - 1)
		for at := range d.Doc {
			d.Doc[at].Name += "x" + string(rune('a'+i%26)) + string(rune('a'+i/26))
		}
		kids = append(kids, api.Expr{Op: api.ExValue, Arg: d})
	}
	expectValue(t, node(api.ExMerge, kids...), val("{}"), null())
	expectValue(t, node(api.ExMerge, kids[:1]...), val("{}"), kids[0].Arg)
	body := lit("1")
	long := api.Expr{Op: api.ExValue, Arg: sample.Nulls(api.MaxNodes - 1)}
	for range 3 {
		body = loop(api.ExMap, long, "x", body)
	}
	expectValue(t, body, val("{}"), list(slices.Repeat([]api.Value{null()}, api.MaxNodes-1)))
	if !value.Valid(Eval(body, val("{}"))) {
		t.Error("a list of nulls is not valid")
	}
}
