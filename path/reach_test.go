package path

import (
	"math/rand/v2"
	"slices"
	"strconv"
	"testing"

	"docstore/api"
	"docstore/sample"
)

// passes is what the chapter defines, word for word.
func passes(v api.Value, p []string) []api.Value {
	if len(p) == 0 {
		return []api.Value{v}
	}
	var l []api.Value
	switch v.Kind {
	case api.KindDoc:
		for _, f := range v.Doc {
			if f.Name == p[0] {
				return passes(f.Value, p[1:])
			}
		}
	case api.KindList:
		for _, e := range v.List {
			if e.Kind == api.KindDoc {
				l = append(l, passes(e, p)...)
			}
		}
		for i, e := range v.List[:min(len(v.List), 10000)] {
			if strconv.Itoa(i) == p[0] {
				l = append(l, passes(e, p[1:])...)
			}
		}
	}
	return l
}

// expectReach checks Reach and Leaves.
func expectReach(t *testing.T, v api.Value, p []string, want, wantLeaves []api.Value) {
	t.Helper()
	expectValues(t, "Reach of "+brief(Text(p))+" in "+show(v), Reach(v, p), want)
	expectValues(t, "Leaves of "+brief(Text(p))+" in "+show(v), Leaves(v, p), wantLeaves)
}

// P4.5, P4.6: through documents and lists.
func TestReach(t *testing.T) {
	for _, c := range []struct{ v, p, reach, leaves string }{
		// The example of the chapter.
		{"{a: [{b: 1}, 5, {b: [2, 3]}, {c: 0}]}", "a.b", "1, [2, 3]", "1, [2, 3], 2, 3"},
		{"{a: [{b: 1}, 5, {b: [2, 3]}, {c: 0}]}", "a.1", "5", "5"},
		{"{a: [{b: 1}, 5, {b: [2, 3]}, {c: 0}]}", "a.x", "none", "none"},
		{"{a: [{b: 1}, 5, {b: [2, 3]}, {c: 0}]}", "a.2.b", "[2, 3]", "[2, 3], 2, 3"},
		{"{a: [{b: 1}, 5, {b: [2, 3]}, {c: 0}]}", "a.b.0", "2", "2"},
		{"{a: [{b: 1}, 5, {b: [2, 3]}, {c: 0}]}", "a.2.b.1", "3", "3"},
		{"{a: [{b: 1}, 5, {b: [2, 3]}, {c: 0}]}", "a.4", "none", "none"},
		{"{a: [{b: 1}, 5, {b: [2, 3]}, {c: 0}]}", "a.1.b", "none", "none"},
		// Documents.
		{"{a: {b: {c: 1}}}", "a.b.c", "1", "1"},
		{"{a: {b: {c: 1}}}", "a.b", "{c: 1}", "{c: 1}"},
		{"{a: {b: {c: 1}}}", "a.c", "none", "none"},
		{"{a: {b: {c: 1}}}", "b", "none", "none"},
		{"{a: 1}", "a.b", "none", "none"},
		{"{a: null}", "a", "null", "null"},
		{"{a: null}", "a.b", "none", "none"},
		{"{0: x, 00: y}", "0", "x", "x"},
		{"{0: x, 00: y}", "00", "y", "y"},
		{"{}", "a", "none", "none"},
		// A name that occurs twice.
		{"{a: 1, a: 2}", "a", "1", "1"},
		{"{a: {b: 1}, a: {c: 2}}", "a.c", "none", "none"},
		{"[{a: 1, a: 2}, {a: 3, a: [4]}]", "a", "1, 3", "1, 3"},
		// Documents within lists, but not lists within lists.
		{"[{a: 1}, {a: 2}]", "a", "1, 2", "1, 2"},
		{"[[{a: 1}], {a: 2}]", "a", "2", "2"},
		{"[[{a: 1}, {a: 3}], {a: 2}]", "0.a", "1, 3", "1, 3"},
		{"[[[{a: 1}]]]", "0.0.a", "1", "1"},
		{"[[[{a: 1}]]]", "0.a", "none", "none"},
		{"{l: [[1, 2], [3]]}", "l", "[[1, 2], [3]]", "[[1, 2], [3]], [1, 2], [3]"},
		{"{l: [[1, 2], [3]]}", "l.0", "[1, 2]", "[1, 2], 1, 2"},
		{"{l: [[1, 2], [3]]}", "l.0.1", "2", "2"},
		{"{l: [[1, 2], [3]]}", "l.1.1", "none", "none"},
		{"{a: [{b: [{c: 1}, {c: 2}]}, {b: {c: 3}}, {b: [[{c: 4}]]}]}", "a.b.c", "1, 2, 3", "1, 2, 3"},
		{"{a: [{b: []}, {b: [[]]}, {b: {}}]}", "a.b", "[], [[]], {}", "[], [[]], [], {}"},
		{"{a: []}", "a", "[]", "[]"},
		{"{a: []}", "a.0", "none", "none"},
		{"{a: []}", "a.b", "none", "none"},
		{"[]", "0", "none", "none"},
		// Numbers that are an index and the name of a field within the list: the fields come first.
		{"[{0: 1}, {0: 2}]", "0", "1, 2, {0: 1}", "1, 2, {0: 1}"},
		{"[5, {1: 6}]", "1", "6, {1: 6}", "6, {1: 6}"},
		{"[5, {0: 6}]", "0", "6, 5", "6, 5"},
		{"[[1], {0: [2]}]", "0", "[2], [1]", "[2], 2, [1], 1"},
		{"[{0: {a: 1}, a: 2}]", "0.a", "1, 2", "1, 2"},
		{"[{0: [{0: 1}]}]", "0.0", "1, {0: 1}, [{0: 1}]", "1, {0: 1}, [{0: 1}], {0: 1}"},
		{"[{0: [{0: 1}]}]", "0.0.0", "1, 1, {0: 1}", "1, 1, {0: 1}"},
		{"[{0: [{0: 1}]}]", "0.0.0.0", "1", "1"},
		{"[{0: [{0: 1}]}]", "0.0.0.0.0", "none", "none"},
		{"{a: [{7: 1}]}", "a.7", "1", "1"},
		{"{a: [1, {00: 2}]}", "a.00", "2", "2"},
		// Numbers that select nothing.
		{"[1, 2]", "2", "none", "none"},
		{"[1, 2]", "01", "none", "none"},
		{"[1, 2]", "-1", "none", "none"},
		{"[1, 2]", "10000", "none", "none"},
		{"5", "a", "none", "none"},
		{"word", "0", "none", "none"},
		// Missing values that are there.
		{"{a: none}", "a", "none", "none"},
		{"[{a: none}, {a: 1}, {a: [none]}]", "a", "none, 1, [none]", "none, 1, [none], none"},
	} {
		expectReach(t, val(c.v), steps(c.p), vals(c.reach), vals(c.leaves))
	}
}

// P4.5, P4.6: a path without steps reaches the value itself.
func TestReachWithoutSteps(t *testing.T) {
	for _, v := range append(others(), val("{a: 1}"), val("{}")) {
		expectReach(t, v, nil, []api.Value{v}, []api.Value{v})
		expectReach(t, v, []string{}, []api.Value{v}, []api.Value{v})
	}
	expectReach(t, val("[1, [2], {a: 3}]"), nil, vals("[1, [2], {a: 3}]"), vals("[1, [2], {a: 3}], 1, [2], {a: 3}"))
	expectReach(t, val("[]"), nil, vals("[]"), vals("[]"))
}

// P4.5, P4.6: values of other kinds have no parts, whatever they contain; only a document is entered within a list.
func TestReachInOtherKinds(t *testing.T) {
	none := vals("none")
	for _, v := range others() {
		for _, p := range []string{"a", "0", "b.a"} {
			expectReach(t, v, steps(p), none, none)
			expectReach(t, list(v), steps("0."+p), none, none)
			expectReach(t, doc(field("a", v)), steps("a."+p), none, none)
		}
		expectReach(t, list(v, v), steps("a"), none, none)
		expectReach(t, list(v), steps("0"), []api.Value{v}, []api.Value{v})
		expectReach(t, doc(field("a", v)), steps("a"), []api.Value{v}, []api.Value{v})
	}
	odd := api.Value{Kind: api.KindDoc, Int: 1, Text: "x", List: vals("{a: 1}"), Doc: val("{b: 2}").Doc}
	expectReach(t, odd, steps("a"), none, none)
	expectReach(t, odd, steps("0"), none, none)
	expectReach(t, list(odd), steps("0"), []api.Value{odd}, []api.Value{odd})
	odd.Kind = api.KindList
	expectReach(t, odd, steps("b"), none, none)
	expectReach(t, doc(field("l", odd)), steps("l"), []api.Value{odd}, []api.Value{odd, val("{a: 1}")})
}

// P4.5, P4.6: paths that are not valid are followed like others.
func TestReachByInvalidPaths(t *testing.T) {
	for _, step := range append(invalidSteps(), ".", "a.b", "$[x]") {
		v := doc(field("a", list(num(0), doc(field(step, list(num(1)))), doc(field(step+"x", null)))))
		expectReach(t, v, []string{"a", step}, vals("[1]"), vals("[1], 1"))
		expectReach(t, v, []string{"a", step, "0"}, vals("1"), vals("1"))
		expectReach(t, v, []string{step}, vals("none"), vals("none"))
		expectReach(t, v, []string{"a", step, step}, vals("none"), vals("none"))
	}
	long := slices.Repeat([]string{"a"}, api.MaxPath+5)
	expectReach(t, sample.NestedDocs(len(long)+1, num(7)), long, vals("7"), vals("7"))
	expectReach(t, sample.NestedDocs(len(long)+2, num(7)), long, vals("{a: 7}"), vals("{a: 7}"))
	expectReach(t, sample.NestedDocs(len(long), num(7)), long, vals("none"), vals("none"))
}

// P4.5: an index has at most four digits.
func TestReachInLongLists(t *testing.T) {
	v := list(slices.Repeat(vals("null"), 10002)...)
	for i := range v.List {
		v.List[i] = num(i)
	}
	for _, i := range []int{0, 9, 10, 9998, 9999} {
		p := []string{strconv.Itoa(i)}
		expectReach(t, v, p, []api.Value{num(i)}, []api.Value{num(i)})
		expectReach(t, list(v.List[:i]...), p, vals("none"), vals("none"))
	}
	expectReach(t, v, steps("10000"), vals("none"), vals("none"))
	if leaves := Leaves(v, nil); len(leaves) != 10003 || leaves[10002].Int != 10001 {
		t.Errorf("%d leaves of a long list", len(leaves))
	}
}

// P4.5, P4.6: values and paths of all forms, by the definition.
func TestReachOfRandomValues(t *testing.T) {
	r := rand.New(rand.NewPCG(4, 5))
	several := 0
	for range 30000 {
		v, p := randomValue(r, 1+r.IntN(7), true), randomSteps(r)
		if r.IntN(2) == 0 {
			v = list(v, randomValue(r, 5, true), randomValue(r, 5, true))
		}
		want := passes(v, p)
		if len(want) > 1 {
			several++
		}
		if len(want) == 0 {
			want = vals("none")
		}
		var leaves []api.Value
		for _, reached := range want {
			leaves = append(append(leaves, reached), reached.List...)
		}
		expectReach(t, v, p, want, leaves)
	}
	if several < 1000 {
		t.Errorf("only %d paths reached several values", several)
	}
}

// alternating returns a value of the given number of levels, in which lists of one document and documents with a field 0 alternate around an inner value.
func alternating(levels int, inner api.Value) api.Value {
	for i := range levels - 1 {
		if i%2 == 0 {
			inner = doc(field("0", inner))
		} else {
			inner = list(inner)
		}
	}
	return inner
}

// P4.5: each way to a place counts, where an index is also the name of a field.
func TestReachByManyWays(t *testing.T) {
	for n := range 12 {
		p := slices.Repeat([]string{"0"}, n)
		for _, levels := range []int{1, 2, 5, 9, 18, 25} {
			v := alternating(levels, val("{x: 1}"))
			want := passes(v, append(p, "x"))
			if len(want) == 0 {
				want = vals("none")
			}
			expectValues(t, "Reach by many ways", Reach(v, append(p, "x")), want)
		}
	}
}

// R1: many ways that all lead to nothing are not followed one by one.
func TestReachEndsWhereNothingIsReached(t *testing.T) {
	p := append(slices.Repeat([]string{"0"}, 200), "x")
	expectReach(t, alternating(401, num(1)), p, vals("none"), vals("none"))
	wide := num(1)
	for range 150 {
		wide = list(num(0), doc(field("1", wide)), doc(field("0", null)), doc())
	}
	expectReach(t, wide, append(slices.Repeat([]string{"1"}, 100), "x"), vals("none"), vals("none"))
	// The same with something that is reached at the end.
	rest := append(slices.Repeat([]string{"0"}, 200), "x", "y")
	expectReach(t, doc(field("0", list(alternating(401, num(1)), val("{x: {y: 2}}")))), rest, vals("none"), vals("none"))
	expectReach(t, list(alternating(401, num(1)), doc(field("0", doc(field("x", num(2)))))), steps("0.x"), vals("2"), vals("2"))
}

// R1: 2^16 levels are followed.
func TestReachInDeepValues(t *testing.T) {
	const levels = 1 << 16
	for _, c := range []struct {
		v api.Value
		p []string
	}{
		{sample.NestedDocs(levels, list(num(1), num(2))), slices.Repeat([]string{"a"}, levels-1)},
		{sample.NestedLists(levels, list(num(1), num(2))), slices.Repeat([]string{"0"}, levels-1)},
	} {
		expectReach(t, c.v, c.p, vals("[1, 2]"), vals("[1, 2], 1, 2"))
		expectReach(t, c.v, append(c.p[:levels-1:levels-1], "x"), vals("none"), vals("none"))
		if l := Reach(c.v, c.p[:1]); len(l) != 1 || !identical(list(l[0]), list(Get(c.v, c.p[:1]))) {
			t.Error("Reach of a deep value")
		}
		if l := Leaves(c.v, nil); len(l) != 1+len(c.v.List) {
			t.Errorf("%d leaves of a deep value", len(l))
		}
	}
}
