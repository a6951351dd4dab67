package expr

import (
	"strings"
	"testing"

	"docstore/api"
	"docstore/sample"
)

// P8.3: every form.
func TestBuild(t *testing.T) {
	for _, c := range canonical() {
		expectBuild(t, c.e, val(c.s), api.OK)
		expectBuild(t, node(api.ExList, c.e, node(api.ExNot, c.e)), val(`[`+c.s+`,{"$not":`+c.s+`}]`), api.OK)
		expectBuild(t, loop(api.ExMap, c.e, "y", c.e), val(`{"$map":[`+c.s+`,"y",`+c.s+`]}`), api.OK)
		expectBuild(t, fieldsOf("b a", c.e, c.e), val(`{"b":`+c.s+`,"a":`+c.s+`}`), api.OK)
	}
}

// P8.3: the first form of ExValue where it is possible, $value otherwise.
func TestBuildValues(t *testing.T) {
	for _, s := range pool() {
		v := val(s)
		want := v
		if v.Kind == api.KindList || len(v.Doc) > 0 || v.Kind == api.KindText && strings.HasPrefix(v.Text, "$") {
			want = only("$value", v)
		}
		expectBuild(t, lit(s), want, api.OK)
	}
	expectBuild(t, api.Expr{Op: api.ExValue, Arg: api.Value{Kind: api.KindDoc, Doc: []api.Field{}}}, val("{}"), api.OK)
	for _, s := range []string{"$", "$a", "$$", "$$a", "$a b", "$\u00e9", "$" + strings.Repeat("a", api.MaxText-1)} {
		expectBuild(t, api.Expr{Op: api.ExValue, Arg: text(s)}, only("$value", text(s)), api.OK)
	}
	for _, s := range []string{"", " $", "a$", "a$b", "\u00e9$", strings.Repeat("a", api.MaxText)} {
		expectBuild(t, api.Expr{Op: api.ExValue, Arg: text(s)}, text(s), api.OK)
	}
}

// P8.3: the errors of Valid.
func TestBuildInvalid(t *testing.T) {
	for _, c := range oneErrorEach() {
		expectBuild(t, c.e, api.Value{}, c.errno)
		expectBuild(t, node(api.ExList, lit("1"), node(api.ExNot, c.e)), api.Value{}, c.errno)
	}
	expectBuild(t, api.Expr{}, api.Value{}, api.ErrOp)
	expectBuild(t, nots(api.MaxDepth+1, lit("1")), api.Value{}, api.ErrLimit)
	expectBuild(t, nots(1<<16, lit("1")), api.Value{}, api.ErrLimit)
	expectBuild(t, node(api.ExAnd, times(api.MaxPreds, lit("1"))...), api.Value{}, api.ErrLimit)
	// The error of Valid comes first, also behind what is too large.
	large := api.Expr{Op: api.ExValue, Arg: sample.Nulls(api.MaxNodes - 1)}
	expectBuild(t, node(api.ExList, large, large, node(99)), api.Value{}, api.ErrOp)
}

// P8.3: the levels of the value, of which most operators take one and those with a list of kids two.
func TestBuildLevels(t *testing.T) {
	ands := func(n int, inner api.Expr) api.Expr {
		for range n {
			inner = node(api.ExAnd, inner)
		}
		return inner
	}
	wrap := func(n int, before, inner, after string) api.Value {
		return val(strings.Repeat(before, n) + inner + strings.Repeat(after, n))
	}
	expectBuild(t, nots(api.MaxDepth, lit("1")), wrap(api.MaxDepth-1, `{"$not":`, `1`, `}`), api.OK)
	expectBuild(t, ands(7, lit("1")), wrap(7, `{"$and":[`, `1`, `]}`), api.OK)
	expectBuild(t, ands(7, node(api.ExNot, lit("1"))), wrap(7, `{"$and":[`, `{"$not":1}`, `]}`), api.OK)
	expectBuild(t, ands(7, node(api.ExNot, node(api.ExNot, lit("1")))), api.Value{}, api.ErrLimit)
	expectBuild(t, ands(7, node(api.ExAnd)), wrap(7, `{"$and":[`, `{"$and":[]}`, `]}`), api.OK)
	expectBuild(t, ands(8, lit("1")), api.Value{}, api.ErrLimit)
	expectBuild(t, ands(8, node(api.ExAnd)), api.Value{}, api.ErrLimit)
	expectBuild(t, ands(15, lit("1")), api.Value{}, api.ErrLimit)
	for _, levels := range []int{1, 2, api.MaxDepth - 1, api.MaxDepth} {
		for nodes := 1; nodes <= api.MaxDepth; nodes++ {
			v := sample.NestedDocs(levels, val("{}"))
			built := levels + nodes - 1
			want := v
			if levels > 1 {
				want = only("$value", v)
				built++
			}
			for range nodes - 1 {
				want = only("$not", want)
			}
			if built > api.MaxDepth {
				expectBuild(t, nots(nodes, api.Expr{Op: api.ExValue, Arg: v}), api.Value{}, api.ErrLimit)
			} else {
				expectBuild(t, nots(nodes, api.Expr{Op: api.ExValue, Arg: v}), want, api.OK)
			}
		}
	}
}

// P8.3: the number of values, which depends on the values of ExValue, and on the names of operators.
func TestBuildNodes(t *testing.T) {
	nulls := func(n int) api.Expr { return api.Expr{Op: api.ExValue, Arg: sample.Nulls(n)} }
	expectBuild(t, nulls(api.MaxNodes-2), only("$value", sample.Nulls(api.MaxNodes-2)), api.OK)
	expectBuild(t, nulls(api.MaxNodes-1), api.Value{}, api.ErrLimit)
	e := node(api.ExList, nulls(500), nulls(519))
	want := list([]api.Value{only("$value", sample.Nulls(500)), only("$value", sample.Nulls(519))})
	expectBuild(t, e, want, api.OK)
	expectBuild(t, node(api.ExList, nulls(500), nulls(520)), api.Value{}, api.ErrLimit)
	expectBuild(t, node(api.ExAdd, nulls(500), nulls(518)), only("$add", list([]api.Value{want.List[0], only("$value", sample.Nulls(518))})), api.OK)
	expectBuild(t, node(api.ExAdd, nulls(500), nulls(519)), api.Value{}, api.ErrLimit)
	expectBuild(t, node(api.ExList, times(api.MaxPreds-1, nulls(api.MaxNodes-1))...), api.Value{}, api.ErrLimit)
}
