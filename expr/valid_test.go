package expr

import (
	"math"
	"strings"
	"testing"

	"docstore/api"
	"docstore/sample"
)

// P8.1: which operators there are, and how many kids each of them has.
func TestValidOperators(t *testing.T) {
	for op := 1; op <= api.ExLast; op++ {
		for kids := range 6 {
			e := sampleOf(op)
			e.Kids = times(kids, lit("1"))
			if op == api.ExDoc {
				e.Names = strings.Fields("a b c d e")[:kids]
			}
			want := api.OK
			if n := kidsOf(op); n >= 0 && n != kids || op == api.ExDoc && kids == 0 {
				want = api.ErrOp
			}
			expectValid(t, e, want)
		}
	}
	for _, op := range []int{0, -1, api.ExLast + 1, api.ExLast + 2, 64, math.MaxInt, math.MinInt} {
		for kids := range 4 {
			expectValid(t, node(op, times(kids, lit("1"))...), api.ErrOp)
			expectValid(t, node(api.ExList, lit("1"), node(op, times(kids, lit("1"))...)), api.ErrOp)
		}
	}
	for names := range 4 {
		for kids := range 4 {
			e := api.Expr{Op: api.ExDoc, Names: strings.Fields("a b c")[:names], Kids: times(kids, lit("1"))}
			if names == kids && kids > 0 {
				expectValid(t, e, api.OK)
			} else {
				expectValid(t, e, api.ErrOp)
			}
		}
	}
}

// P8.1: paths, which have to be valid, and may be empty behind a variable.
func TestValidPaths(t *testing.T) {
	longest := slicesOf("a", api.MaxPath)
	for _, c := range []struct {
		path []string
		want api.Errno
	}{
		{[]string{"a"}, api.OK}, {[]string{"0"}, api.OK}, {[]string{"a", "b", "a"}, api.OK}, {[]string{strings.Repeat("a", api.MaxName)}, api.OK}, {longest, api.OK},
		{[]string{""}, api.ErrPath}, {[]string{"a", ""}, api.ErrPath}, {[]string{"a.b"}, api.ErrPath}, {[]string{"$a"}, api.ErrPath}, {[]string{"a", "$"}, api.ErrPath},
		{[]string{"a b"}, api.ErrPath}, {[]string{"\u00e9"}, api.ErrPath}, {[]string{strings.Repeat("a", api.MaxName+1)}, api.ErrPath}, {append(longest, "a"), api.ErrPath},
	} {
		expectValid(t, api.Expr{Op: api.ExPath, Path: c.path}, c.want)
		expectValid(t, api.Expr{Op: api.ExVar, Name: "x", Path: c.path}, c.want)
	}
	expectValid(t, api.Expr{Op: api.ExPath}, api.ErrPath)
	expectValid(t, api.Expr{Op: api.ExPath, Path: []string{}}, api.ErrPath)
	expectValid(t, api.Expr{Op: api.ExVar, Name: "x"}, api.OK)
	expectValid(t, api.Expr{Op: api.ExVar, Name: "x", Path: []string{}}, api.OK)
}

func slicesOf(s string, n int) []string {
	return strings.Fields(strings.Repeat(s+" ", n))
}

// P8.1: names of variables and fields.
func TestValidNames(t *testing.T) {
	expectName := func(name string, want api.Errno) {
		t.Helper()
		expectValid(t, api.Expr{Op: api.ExVar, Name: name}, want)
		expectValid(t, loop(api.ExMap, lit("1"), name, lit("1")), want)
		expectValid(t, loop(api.ExFilter, lit("1"), name, lit("1")), want)
		expectValid(t, api.Expr{Op: api.ExDoc, Names: []string{name}, Kids: times(1, lit("1"))}, want)
		expectValid(t, api.Expr{Op: api.ExDoc, Names: []string{"other", name}, Kids: times(2, lit("1"))}, want)
	}
	for b := range 0x100 {
		want := api.OK
		if b < 0x21 || b > 0x7e || b == '.' {
			want = api.ErrName
		}
		expectName(string([]byte{'a', byte(b)}), want)
		if b == '$' {
			want = api.ErrName
		}
		expectName(string([]byte{byte(b)}), want)
		expectName(string([]byte{byte(b), 'a'}), want)
	}
	expectName("", api.ErrName)
	expectName(strings.Repeat("a", api.MaxName), api.OK)
	expectName(strings.Repeat("a", api.MaxName+1), api.ErrName)
	for _, names := range []string{"a a", "a b a", "b a a", "a b c d e f g h b"} {
		expectValid(t, fieldsOf(names, times(len(strings.Fields(names)), lit("1"))...), api.ErrName)
	}
	expectValid(t, fieldsOf("a A aa b", times(4, lit("1"))...), api.OK)
}

// P8.1: the values of ExValue.
func TestValidArgs(t *testing.T) {
	for _, s := range pool() {
		expectValid(t, lit(s), api.OK)
	}
	for _, v := range append(invalid(), api.Value{}, api.Value{Int: 1}) {
		expectValid(t, api.Expr{Op: api.ExValue, Arg: v}, api.ErrKind)
		expectValid(t, node(api.ExNot, api.Expr{Op: api.ExValue, Arg: v}), api.ErrKind)
	}
	expectValid(t, api.Expr{Op: api.ExValue, Arg: sample.NestedLists(api.MaxDepth, num(1))}, api.OK)
	expectValid(t, api.Expr{Op: api.ExValue, Arg: sample.Nulls(api.MaxNodes - 1)}, api.OK)
}

// P8.1: fields that an operator does not use are zero.
func TestValidUnusedFields(t *testing.T) {
	for op := 1; op <= api.ExLast; op++ {
		e := sampleOf(op)
		expectValid(t, e, api.OK)
		for _, n := range []int{1, -1, math.MaxInt, math.MinInt} {
			e.N = n
			expectValid(t, e, api.ErrForm)
		}
		e.N = 0
		for _, arg := range append(invalid(), api.Value{Int: 1}, api.Value{Text: "a"}, api.Value{List: []api.Value{{}}}, api.Value{Doc: []api.Field{{}}}, null()) {
			if with := e; op != api.ExValue {
				with.Arg = arg
				expectValid(t, with, api.ErrForm)
			}
		}
		if with := e; op != api.ExPath && op != api.ExVar {
			with.Path = []string{"a"}
			expectValid(t, with, api.ErrForm)
			with.Path = []string{""}
			expectValid(t, with, api.ErrForm)
		}
		if with := e; op != api.ExVar && op != api.ExMap && op != api.ExFilter {
			with.Name = "x"
			expectValid(t, with, api.ErrForm)
			with.Name = "$"
			expectValid(t, with, api.ErrForm)
		}
		if with := e; op != api.ExDoc {
			with.Names = []string{"a"}
			expectValid(t, with, api.ErrForm)
			with.Names = []string{""}
			expectValid(t, with, api.ErrForm)
		}
		expectEmptyFieldsAccepted(t, e)
	}
}

// expectEmptyFieldsAccepted checks that empty lists are as good as nil.
func expectEmptyFieldsAccepted(t *testing.T, e api.Expr) {
	t.Helper()
	if e.Op != api.ExValue {
		e.Arg = api.Value{List: []api.Value{}, Doc: []api.Field{}}
	}
	if len(e.Path) == 0 {
		e.Path = []string{}
	}
	if len(e.Names) == 0 {
		e.Names = []string{}
	}
	if len(e.Kids) == 0 {
		e.Kids = []api.Expr{}
	}
	expectValid(t, e, api.OK)
}

// wrong is an expression of one node, or with kids that are valid, with its error.
type wrong struct {
	e     api.Expr
	errno api.Errno
}

// oneErrorEach returns nodes with each error alone but ErrLimit.
func oneErrorEach() []wrong {
	return []wrong{
		{node(99), api.ErrOp}, {node(api.ExSub, lit("1")), api.ErrOp},
		{api.Expr{Op: api.ExPath, Path: []string{""}}, api.ErrPath}, {variableAt("x", "$"), api.ErrPath},
		{variableAt("", "a"), api.ErrName}, {fieldsOf("a a", lit("1"), lit("1")), api.ErrName}, {loop(api.ExMap, lit("1"), "", lit("1")), api.ErrName},
		{api.Expr{Op: api.ExValue, Arg: text("\xff")}, api.ErrKind},
		{api.Expr{Op: api.ExAdd, N: 1}, api.ErrForm}, {api.Expr{Op: api.ExPath, Path: []string{"a"}, Name: "x"}, api.ErrForm},
	}
}

// P8.1: the order of the errors of one node.
func TestValidOrderWithinNode(t *testing.T) {
	bad := api.Value{Kind: 99}
	everything := api.Expr{Path: []string{""}, Name: "$", Names: []string{"a", "a"}, Arg: bad, N: 1}
	for op := -1; op <= api.ExLast+1; op++ {
		e := everything
		e.Op = op
		e.Kids = times(4, lit("1")) // wrong for all operators but those with any number of kids
		switch {
		case op < 1 || op > api.ExLast || kidsOf(op) >= 0 || op == api.ExDoc:
			expectValid(t, e, api.ErrOp)
		default:
			expectValid(t, e, api.ErrForm)
		}
		if op < 1 || op > api.ExLast || kidsOf(op) < 0 && op != api.ExDoc {
			continue
		}
		e.Kids = sampleOf(op).Kids
		if op == api.ExDoc {
			e.Kids = times(2, lit("1"))
		}
		expectValid(t, e, firstErrorOf(op))
	}
	for _, c := range []wrong{
		{api.Expr{Op: api.ExVar, Path: []string{"a"}, Name: "", N: 1}, api.ErrName},
		{api.Expr{Op: api.ExVar, Path: []string{"."}, Name: "", N: 1}, api.ErrPath},
		{api.Expr{Op: api.ExVar, Path: []string{"."}, Name: "x", Arg: bad}, api.ErrPath},
		{api.Expr{Op: api.ExPath, Path: []string{"."}, Names: []string{"a"}}, api.ErrPath},
		{api.Expr{Op: api.ExValue, Arg: bad, Path: []string{"."}}, api.ErrKind},
		{api.Expr{Op: api.ExDoc, Names: []string{"a", "$"}, Kids: times(1, lit("1"))}, api.ErrOp},
		{api.Expr{Op: api.ExDoc, Names: []string{"a", "$"}, Kids: times(2, lit("1")), Arg: bad}, api.ErrName},
		{api.Expr{Op: api.ExMap, Name: "$", Kids: times(3, lit("1"))}, api.ErrOp},
		{api.Expr{Op: api.ExFilter, Name: "$", Kids: times(2, lit("1")), Path: []string{"."}}, api.ErrName},
	} {
		expectValid(t, c.e, c.errno)
	}
}

// firstErrorOf returns the error of a node with the right number of kids in which every field is wrong.
func firstErrorOf(op int) api.Errno {
	switch op {
	case api.ExPath, api.ExVar:
		return api.ErrPath
	case api.ExMap, api.ExFilter, api.ExDoc:
		return api.ErrName
	case api.ExValue:
		return api.ErrKind
	}
	return api.ErrForm
}

// P8.1: of the errors of several nodes, the first one in preorder is returned.
func TestValidPreorder(t *testing.T) {
	for _, first := range oneErrorEach() {
		expectValid(t, first.e, first.errno)
		for _, second := range oneErrorEach() {
			expectValid(t, node(api.ExList, first.e, second.e), first.errno)
			expectValid(t, node(api.ExList, lit("1"), node(api.ExNot, first.e), second.e), first.errno)
			expectValid(t, node(api.ExIf, lit("1"), first.e, node(api.ExNot, second.e)), first.errno)
			expectValid(t, loop(api.ExMap, first.e, "x", second.e), first.errno)
			if len(first.e.Kids) > 0 {
				above := first.e
				above.Kids = times(len(first.e.Kids), second.e)
				expectValid(t, above, first.errno)
			}
			above := api.Expr{Op: api.ExAdd, N: 1, Kids: []api.Expr{second.e}}
			expectValid(t, above, api.ErrForm)
			expectValid(t, node(api.ExList, node(api.ExAdd, lit("1"), first.e), above), first.errno)
		}
	}
}

// P8.1: the greatest level.
func TestValidLevels(t *testing.T) {
	for _, inner := range []api.Expr{lit("1"), pathTo("a"), variableAt("x", ""), node(api.ExAdd), node(api.ExList)} {
		expectValid(t, nots(api.MaxDepth, inner), api.OK)
		expectValid(t, nots(api.MaxDepth+1, inner), api.ErrLimit)
		expectValid(t, node(api.ExList, inner, nots(api.MaxDepth-1, inner)), api.OK)
		expectValid(t, node(api.ExList, inner, nots(api.MaxDepth, inner)), api.ErrLimit)
	}
	for _, c := range oneErrorEach() {
		if len(c.e.Kids) == 0 {
			expectValid(t, nots(api.MaxDepth, c.e), c.errno)
		}
		expectValid(t, nots(api.MaxDepth+1, c.e), api.ErrLimit)
		expectValid(t, node(api.ExList, nots(api.MaxDepth, lit("1")), c.e), api.ErrLimit)
		expectValid(t, node(api.ExList, c.e, nots(api.MaxDepth, lit("1"))), c.errno)
	}
	expectValid(t, nots(1<<16, lit("1")), api.ErrLimit)
	expectValid(t, api.Expr{Op: api.ExValue, Arg: sample.NestedLists(1<<16, num(1))}, api.ErrKind)
}

// P8.1: the greatest number of nodes, in expressions of several forms.
func TestValidNodes(t *testing.T) {
	most := api.MaxPreds
	expectValid(t, node(api.ExAnd, times(most-1, lit("1"))...), api.OK)
	expectValid(t, node(api.ExAnd, times(most, lit("1"))...), api.ErrLimit)
	pairs := times(most/2-1, node(api.ExNot, lit("1")))
	expectValid(t, node(api.ExOr, append(pairs, lit("1"))...), api.OK)
	expectValid(t, node(api.ExOr, append(pairs, node(api.ExNot, lit("1")))...), api.ErrLimit)
	half := node(api.ExList, times(most/2-1, pathTo("a"))...)
	expectValid(t, node(api.ExEq, half, node(api.ExList, times(most/2-2, pathTo("a"))...)), api.OK)
	expectValid(t, node(api.ExEq, half, half), api.ErrLimit)
	for _, c := range oneErrorEach() {
		if len(c.e.Kids) > 0 {
			continue
		}
		expectValid(t, node(api.ExList, append(times(most-2, lit("1")), c.e, lit("1"))...), c.errno)
		expectValid(t, node(api.ExList, append(times(most-1, lit("1")), c.e)...), api.ErrLimit)
	}
	names := make([]string, most)
	for i := range names {
		names[i] = "f" + strings.Repeat("x", i%20) + string(rune('a'+i/20))
	}
	e := api.Expr{Op: api.ExDoc, Names: names, Kids: times(most, lit("1"))}
	expectValid(t, e, api.ErrLimit)
	names[most-1] = names[0]
	expectValid(t, e, api.ErrName)
	expectValid(t, node(api.ExList, make([]api.Expr, 1<<16)...), api.ErrOp)
	expectValid(t, node(api.ExList, times(1<<16, lit("1"))...), api.ErrLimit)
	expectValid(t, node(api.ExNot, times(1<<16, lit("1"))...), api.ErrOp)
}
