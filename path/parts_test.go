package path

import (
	"slices"
	"strconv"
	"strings"
	"testing"

	"docstore/api"
	"docstore/sample"
)

func expectGet(t *testing.T, v api.Value, p []string, want api.Value) {
	t.Helper()
	expectValue(t, "Get of "+brief(Text(p))+" in "+show(v), Get(v, p), want)
}

// expectPut checks both results: with an error, the value is zero.
func expectPut(t *testing.T, v api.Value, p []string, x, want api.Value, wantErrno api.Errno) {
	t.Helper()
	what := "Put of " + show(x) + " at " + brief(Text(p)) + " in " + show(v)
	got, errno := Put(v, p, x)
	expectValue(t, what, got, want)
	if errno != wantErrno {
		t.Errorf("%s: error %d; expected %d", what, errno, wantErrno)
	}
}

func expectDrop(t *testing.T, v api.Value, p []string, want api.Value) {
	t.Helper()
	expectValue(t, "Drop of "+brief(Text(p))+" in "+show(v), Drop(v, p), want)
}

// P4.7.
func TestGet(t *testing.T) {
	for _, c := range []struct{ v, p, want string }{
		// The example of the chapter.
		{"{a: [{b: 1}, 5, {b: [2, 3]}, {c: 0}]}", "a.2.b", "[2, 3]"},
		{"{a: [{b: 1}, 5, {b: [2, 3]}, {c: 0}]}", "a.b", "none"},
		{"{a: [{b: 1}, 5, {b: [2, 3]}, {c: 0}]}", "a.1", "5"},
		{"{a: [{b: 1}, 5, {b: [2, 3]}, {c: 0}]}", "a.1.b", "none"},
		{"{a: [{b: 1}, 5, {b: [2, 3]}, {c: 0}]}", "a.4", "none"},
		{"{a: [{b: 1}, 5, {b: [2, 3]}, {c: 0}]}", "a", "[{b: 1}, 5, {b: [2, 3]}, {c: 0}]"},
		// Documents.
		{"{a: {b: {c: 1}}}", "a.b.c", "1"},
		{"{a: {b: {c: 1}}}", "a.b", "{c: 1}"},
		{"{a: {b: {c: 1}}}", "a.c", "none"},
		{"{a: {b: {c: 1}}}", "b", "none"},
		{"{a: {b: {c: 1}}}", "", "{a: {b: {c: 1}}}"},
		{"{}", "a", "none"},
		{"{}", "", "{}"},
		{"{a: 1}", "a.b", "none"},
		{"{a: null}", "a", "null"},
		{"{a: null}", "a.b", "none"},
		{"{0: x, 00: y}", "0", "x"},
		{"{0: x, 00: y}", "00", "y"},
		{"{a: none}", "a", "none"},
		// A name that occurs twice.
		{"{b: 0, a: 1, a: 2}", "a", "1"},
		{"{a: {b: 1}, a: {c: 2}}", "a.c", "none"},
		// Lists are entered by an index only.
		{"[{a: 1}]", "a", "none"},
		{"[{a: 1}]", "0.a", "1"},
		{"[[1, 2], [3]]", "0.1", "2"},
		{"[[1, 2], [3]]", "1.1", "none"},
		{"[[1, 2], [3]]", "1", "[3]"},
		{"[{0: 1}, {0: 2}]", "0", "{0: 1}"},
		{"[{0: 1}, {0: 2}]", "1.0", "2"},
		{"[{0: 1}, {0: 2}]", "2", "none"},
		{"[1, 2]", "", "[1, 2]"},
		{"[1, 2]", "01", "none"},
		{"[1, 2]", "00", "none"},
		{"[1, 2]", "-1", "none"},
		{"[1, 2]", "10000", "none"},
		{"[]", "0", "none"},
		{"[[]]", "0", "[]"},
		{"[none]", "0", "none"},
		{"5", "0", "none"},
		{"5", "", "5"},
	} {
		expectGet(t, val(c.v), steps(c.p), val(c.want))
	}
}

// P4.7: values of other kinds have no parts, whatever they contain.
func TestGetInOtherKinds(t *testing.T) {
	for _, v := range others() {
		expectGet(t, v, nil, v)
		expectGet(t, v, []string{}, v)
		expectGet(t, doc(field("a", v)), steps("a"), v)
		expectGet(t, list(v), steps("0"), v)
		for _, p := range []string{"a", "0", "b.a"} {
			expectGet(t, v, steps(p), missing)
			expectGet(t, doc(field("a", v)), steps("a."+p), missing)
			expectGet(t, list(v), steps("0."+p), missing)
		}
	}
	odd := api.Value{Kind: api.KindDoc, Int: 1, Text: "x", List: vals("1"), Doc: val("{b: 2}").Doc}
	expectGet(t, odd, steps("0"), missing)
	expectGet(t, odd, nil, odd)
	odd.Kind = api.KindList
	expectGet(t, odd, steps("b"), missing)
	expectGet(t, doc(field("a", odd)), steps("a"), odd)
}

// P4.7: paths that are not valid are followed like others.
func TestGetByInvalidPaths(t *testing.T) {
	for _, step := range append(invalidSteps(), ".", "a.b", "$[x]") {
		v := doc(field("a", list(num(0), doc(field(step+"x", null), field(step, list(num(1)))))))
		expectGet(t, v, []string{"a", "1", step}, val("[1]"))
		expectGet(t, v, []string{"a", "1", step, "0"}, num(1))
		expectGet(t, v, []string{"a", step}, missing)
		expectGet(t, v, []string{"a", "1", step, step}, missing)
	}
	for _, levels := range []int{api.MaxPath + 5, 1 << 16} {
		expectGet(t, sample.NestedDocs(levels+1, num(7)), slices.Repeat([]string{"a"}, levels), num(7))
		expectGet(t, sample.NestedLists(levels+1, num(7)), slices.Repeat([]string{"0"}, levels), num(7))
		expectGet(t, sample.NestedDocs(levels, num(7)), slices.Repeat([]string{"a"}, levels), missing)
		expectGet(t, sample.NestedLists(levels, num(7)), slices.Repeat([]string{"0"}, levels), missing)
	}
}

// P4.8: fields are replaced where they are, or added at the end.
func TestPutInDocuments(t *testing.T) {
	for _, c := range []struct{ v, p, x, want string }{
		{"{a: 1}", "b.c", "2", "{a: 1, b: {c: 2}}"},
		{"{}", "a", "1", "{a: 1}"},
		{"{a: 1, b: 2}", "a", "3", "{a: 3, b: 2}"},
		{"{a: 1, b: 2}", "c", "3", "{a: 1, b: 2, c: 3}"},
		{"{a: {b: 1, c: 2}, d: 3}", "a.b", "[]", "{a: {b: [], c: 2}, d: 3}"},
		{"{a: {b: 1, c: 2}, d: 3}", "a", "{}", "{a: {}, d: 3}"},
		{"{a: {b: 1}, d: 3}", "a.c", "2", "{a: {b: 1, c: 2}, d: 3}"},
		{"{a: {}}", "a.b.c.d", "1", "{a: {b: {c: {d: 1}}}}"},
		{"{}", "a.b.c.d.e", "{f: 1}", "{a: {b: {c: {d: {e: {f: 1}}}}}}"},
		{"{a: null}", "a", "null", "{a: null}"},
		{"{a: 1, a: 2}", "a", "3", "{a: 3, a: 2}"},
		{"{a: {b: 1}, a: {c: 2}}", "a.c", "3", "{a: {b: 1, c: 3}, a: {c: 2}}"},
		// Numbers are names where there is no list.
		{"{}", "0", "1", "{0: 1}"},
		{"{}", "a.0", "1", "{a: {0: 1}}"},
		{"{}", "a.1.2", "1", "{a: {1: {2: 1}}}"},
		{"{0: 1}", "00", "2", "{0: 1, 00: 2}"},
		// A missing value that is there can be replaced.
		{"{b: none}", "b", "1", "{b: 1}"},
	} {
		expectPut(t, val(c.v), steps(c.p), val(c.x), val(c.want), api.OK)
	}
}

// P4.8: elements are replaced, and lists become as long as the index requires.
func TestPutInLists(t *testing.T) {
	for _, c := range []struct{ v, p, x, want string }{
		{"{l: [1]}", "l.2", "5", "{l: [1, null, 5]}"},
		{"{l: [1]}", "l.1", "5", "{l: [1, 5]}"},
		{"{l: [1]}", "l.0", "5", "{l: [5]}"},
		{"{l: [1, 2, 3]}", "l.1", "[]", "{l: [1, [], 3]}"},
		{"{l: []}", "l.0", "5", "{l: [5]}"},
		{"{l: []}", "l.3", "5", "{l: [null, null, null, 5]}"},
		{"{l: [1]}", "l.1.a", "5", "{l: [1, {a: 5}]}"},
		{"{l: [1]}", "l.2.0", "5", "{l: [1, null, {0: 5}]}"},
		{"{l: [1]}", "l.3.a.b", "5", "{l: [1, null, null, {a: {b: 5}}]}"},
		{"{l: [{a: 1}, {a: 2}]}", "l.1.a", "5", "{l: [{a: 1}, {a: 5}]}"},
		{"{l: [{a: 1}, {a: 2}]}", "l.1.b", "5", "{l: [{a: 1}, {a: 2, b: 5}]}"},
		{"{l: [[1], [2]]}", "l.0.1", "5", "{l: [[1, 5], [2]]}"},
		{"{l: [[1], [2]]}", "l.1", "5", "{l: [[1], 5]}"},
		{"{l: [[1], [2]]}", "l.2.0", "5", "{l: [[1], [2], {0: 5}]}"},
		{"{l: [{0: [1]}]}", "l.0.0.0", "5", "{l: [{0: [5]}]}"},
		{"{l: [{0: [1]}]}", "l.0", "5", "{l: [5]}"},
		{"{l: [none]}", "l.0", "5", "{l: [5]}"},
		{"{l: [1], l: [2]}", "l.1", "5", "{l: [1, 5], l: [2]}"},
	} {
		expectPut(t, val(c.v), steps(c.p), val(c.x), val(c.want), api.OK)
	}
}

// P4.8: indexes less than, equal to and beyond the length, up to the greatest one.
func TestPutAtEveryIndex(t *testing.T) {
	for _, length := range []int{0, 1, 7, 9999, 10000, 10001} {
		l := sample.Nulls(length).List
		for i := range l {
			l[i] = num(i)
		}
		for _, i := range []int{0, 1, 6, 7, 8, 9998, 9999} {
			want := slices.Clone(l)
			for len(want) <= i {
				want = append(want, null)
			}
			want[i] = num(-1)
			p := []string{"l", strconv.Itoa(i)}
			expectPut(t, doc(field("l", list(l...))), p, num(-1), doc(field("l", list(want...))), api.OK)
			if i >= length {
				want[i] = val("{a: -1}")
				expectPut(t, doc(field("l", list(l...))), append(p, "a"), num(-1), doc(field("l", list(want...))), api.OK)
			}
		}
		expectPut(t, doc(field("l", list(l...))), steps("l.10000"), num(-1), missing, api.ErrPath)
	}
}

// P4.8: the first error is that of the path, then that of the kinds, then that of the step that cannot be followed.
func TestPutErrors(t *testing.T) {
	refused := doc(field("a", num(1)), field("l", list()))
	for _, step := range append(invalidSteps(), ".", "a.b", "$[]") {
		for _, p := range [][]string{{step}, {"a", step}, {"l", step}, {step, "a"}, {"new", "a", step}} {
			expectPut(t, refused, p, num(1), missing, api.ErrPath)
			expectPut(t, num(5), p, missing, missing, api.ErrPath)
		}
	}
	tooLong := slices.Repeat([]string{"n"}, api.MaxPath+1)
	for _, p := range [][]string{nil, {}, tooLong} {
		expectPut(t, refused, p, num(1), missing, api.ErrPath)
		expectPut(t, refused, p, missing, missing, api.ErrPath)
		expectPut(t, list(), p, num(1), missing, api.ErrPath)
	}
	for _, v := range append(others(), list(), list(refused)) {
		expectPut(t, v, steps("a"), num(1), missing, api.ErrKind)
		expectPut(t, v, steps("0"), num(1), missing, api.ErrKind)
		expectPut(t, v, steps("b.a"), missing, missing, api.ErrKind)
	}
	for _, x := range others() {
		if x.Kind == api.KindNone {
			expectPut(t, refused, steps("a"), x, missing, api.ErrKind)
			expectPut(t, refused, steps("a.b"), x, missing, api.ErrKind)
			expectPut(t, refused, steps("l.x"), x, missing, api.ErrKind)
		}
	}
}

// P4.8: steps that cannot be followed, at the first step, in between and at the end.
func TestPutThatCannotFollow(t *testing.T) {
	for _, c := range []struct{ v, p string }{
		{"{a: 1}", "a.b"},
		{"{a: 1}", "a.0"},
		{"{a: 1}", "a.b.c.d"},
		{"{a: null}", "a.b"},
		{"{a: word}", "a.0"},
		{"{a: none}", "a.b"},
		{"{a: {b: 1}}", "a.b.c"},
		{"{a: 1, a: {b: 2}}", "a.b"},
		{"{l: [1, 2]}", "l.a"},
		{"{l: [1, 2]}", "l.01"},
		{"{l: [1, 2]}", "l.-1"},
		{"{l: [1, 2]}", "l.+1"},
		{"{l: [1, 2]}", "l.10000"},
		{"{l: [1, 2]}", "l.0.a"},
		{"{l: [1, 2]}", "l.1.0"},
		{"{l: [1, 2]}", "l.a.0"},
		{"{l: []}", "l.a"},
		{"{l: [{a: 1}]}", "l.a"},
		{"{l: [{a: 1}]}", "l.0.a.b"},
		{"{l: [[]]}", "l.0.a"},
		{"{l: [none]}", "l.0.a"},
	} {
		expectPut(t, val(c.v), steps(c.p), num(9), missing, api.ErrPath)
	}
	for _, v := range others() {
		expectPut(t, doc(field("a", v)), steps("a.a"), num(9), missing, api.ErrPath)
		expectPut(t, doc(field("a", v)), steps("a.0"), num(9), missing, api.ErrPath)
		expectPut(t, doc(field("l", list(v))), steps("l.0.a"), num(9), missing, api.ErrPath)
	}
}

// P4.8: neither the value nor the result has to be valid.
func TestPutOfInvalidValues(t *testing.T) {
	for _, x := range others() {
		if x.Kind != api.KindNone {
			expectPut(t, val("{a: 1}"), steps("a"), x, doc(field("a", x)), api.OK)
			expectPut(t, val("{l: []}"), steps("l.1.a"), x, doc(field("l", list(null, doc(field("a", x))))), api.OK)
		}
	}
	odd := api.Value{Kind: api.KindDoc, Int: 1, Text: "x", List: vals("1"), Doc: val("{$: 2}").Doc}
	want := api.Value{Kind: api.KindDoc, Int: 1, Text: "x", List: vals("1"), Doc: val("{$: 2, 0: 3}").Doc}
	expectPut(t, odd, steps("0"), num(3), want, api.OK)
	expectPut(t, sample.Numbered(api.MaxNodes), steps("x"), num(-1), doc(append(sample.Numbered(api.MaxNodes).Doc, field("x", num(-1)))...), api.OK)
	p := slices.Repeat([]string{"a"}, api.MaxPath)
	for _, levels := range []int{1, 2, api.MaxPath, api.MaxPath + 1, api.MaxPath + 2} {
		expectPut(t, sample.NestedDocs(levels, doc()), p, num(7), sample.NestedDocs(api.MaxPath+1, num(7)), api.OK)
	}
	expectPut(t, doc(), p, sample.NestedDocs(1<<16-api.MaxPath, num(7)), sample.NestedDocs(1<<16, num(7)), api.OK)
	expectPut(t, sample.NestedDocs(1<<16, num(7)), p, num(8), sample.NestedDocs(api.MaxPath+1, num(8)), api.OK)
	expectPut(t, sample.NestedDocs(1<<16, num(7)), steps("b"), num(8), doc(field("a", sample.NestedDocs(1<<16-1, num(7))), field("b", num(8))), api.OK)
}

// P4.9.
func TestDrop(t *testing.T) {
	for _, c := range []struct{ v, p, want string }{
		{"{a: {b: 1, c: 2}}", "a.b", "{a: {c: 2}}"},
		{"{l: [1, 2]}", "l.0", "{l: [null, 2]}"},
		// Fields.
		{"{a: 1, b: 2, c: 3}", "a", "{b: 2, c: 3}"},
		{"{a: 1, b: 2, c: 3}", "b", "{a: 1, c: 3}"},
		{"{a: 1, b: 2, c: 3}", "c", "{a: 1, b: 2}"},
		{"{a: 1}", "a", "{}"},
		{"{a: {b: {c: 1}}}", "a.b.c", "{a: {b: {}}}"},
		{"{a: {b: {c: 1}}}", "a.b", "{a: {}}"},
		{"{0: 1, 00: 2}", "0", "{00: 2}"},
		{"{a: null}", "a", "{}"},
		{"{a: none, b: 1}", "a", "{b: 1}"},
		{"{b: 0, a: 1, a: 2, a: 3}", "a", "{b: 0, a: 2, a: 3}"},
		{"{a: {b: 1}, a: {c: 2}}", "a.b", "{a: {}, a: {c: 2}}"},
		// Elements.
		{"{l: [1, 2]}", "l.1", "{l: [1, null]}"},
		{"{l: [1]}", "l.0", "{l: [null]}"},
		{"{l: [null]}", "l.0", "{l: [null]}"},
		{"{l: [{a: 1}, {a: 2}]}", "l.1", "{l: [{a: 1}, null]}"},
		{"{l: [{a: 1}, {a: 2}]}", "l.1.a", "{l: [{a: 1}, {}]}"},
		{"{l: [{0: 1}, {0: 2}]}", "l.0", "{l: [null, {0: 2}]}"},
		{"{l: [{0: 1}, {0: 2}]}", "l.0.0", "{l: [{}, {0: 2}]}"},
		{"[[1, 2], [3]]", "0.1", "[[1, null], [3]]"},
		{"[[1, 2], [3]]", "1", "[[1, 2], null]"},
		{"[none]", "0", "[null]"},
	} {
		expectDrop(t, val(c.v), steps(c.p), val(c.want))
	}
}

// P4.9: what cannot be followed changes nothing.
func TestDropOfNothing(t *testing.T) {
	for _, c := range []struct{ v, p string }{
		{"{a: {b: 1}}", ""},
		{"[1, 2]", ""},
		{"5", ""},
		{"none", ""},
		{"{}", "a"},
		{"{a: 1}", "b"},
		{"{a: 1}", "a.b"},
		{"{a: 1}", "a.0"},
		{"{a: 1}", "b.a"},
		{"{a: {b: 1}}", "a.c"},
		{"{a: {b: 1}}", "a.b.c"},
		{"{a: {b: 1}}", "b"},
		{"{a: {b: 1}, a: {c: 2}}", "a.c"},
		{"{a: none}", "a.b"},
		{"{l: [{a: 1}, {a: 2}]}", "l.a"},
		{"{l: [{0: 1}, {0: 2}]}", "l.2"},
		{"{l: [1, 2]}", "l.2"},
		{"{l: [1, 2]}", "l.01"},
		{"{l: [1, 2]}", "l.-1"},
		{"{l: [1, 2]}", "l.10000"},
		{"{l: [1, 2]}", "l.a"},
		{"{l: [1, 2]}", "l.0.a"},
		{"{l: []}", "l.0"},
		{"5", "a"},
		{"5", "0.1"},
		{"none", "a"},
	} {
		expectDrop(t, val(c.v), steps(c.p), val(c.v))
	}
	for _, v := range others() {
		expectDrop(t, v, nil, v)
		for _, p := range []string{"a", "0", "b.a"} {
			expectDrop(t, v, steps(p), v)
			expectDrop(t, doc(field("a", v)), steps("a."+p), doc(field("a", v)))
			expectDrop(t, list(v), steps("0."+p), list(v))
		}
		expectDrop(t, doc(field("a", v)), steps("a"), doc())
		expectDrop(t, list(v), steps("0"), list(null))
	}
}

// P4.9: paths that are not valid are followed like others, and the other fields of the struct stay.
func TestDropByInvalidPaths(t *testing.T) {
	for _, step := range append(invalidSteps(), ".", "a.b", "$[x]") {
		v := doc(field("a", list(num(0), doc(field(step+"x", null), field(step, list(num(1)))))))
		expectDrop(t, v, []string{"a", "1", step}, doc(field("a", list(num(0), doc(field(step+"x", null))))))
		expectDrop(t, v, []string{"a", "1", step, "0"}, doc(field("a", list(num(0), doc(field(step+"x", null), field(step, list(null)))))))
		expectDrop(t, v, []string{"a", step}, v)
	}
	for _, levels := range []int{api.MaxPath + 5, 1<<16 - 1} {
		expectDrop(t, sample.NestedDocs(levels+1, num(7)), slices.Repeat([]string{"a"}, levels), sample.NestedDocs(levels, doc()))
		expectDrop(t, sample.NestedLists(levels+1, num(7)), slices.Repeat([]string{"0"}, levels), sample.NestedLists(levels+1, null))
		expectDrop(t, sample.NestedDocs(levels, num(7)), slices.Repeat([]string{"a"}, levels), sample.NestedDocs(levels, num(7)))
	}
	odd := api.Value{Kind: api.KindDoc, Int: 1, Text: "x", List: vals("1"), Doc: val("{b: 2, c: 3}").Doc}
	want := api.Value{Kind: api.KindDoc, Int: 1, Text: "x", List: vals("1"), Doc: val("{c: 3}").Doc}
	expectDrop(t, odd, steps("b"), want)
	expectDrop(t, odd, steps("0"), odd)
	odd.Kind, want.Kind = api.KindList, api.KindList
	want.List, want.Doc = vals("null"), odd.Doc
	expectDrop(t, odd, steps("0"), want)
	expectDrop(t, odd, steps("b"), odd)
}

// P4.7, P4.9: an index has at most four digits.
func TestIndexesOfLongLists(t *testing.T) {
	v := list(sample.Nulls(10002).List...)
	for i := range v.List {
		v.List[i] = num(i)
	}
	for _, i := range []int{0, 10, 9999} {
		want := list(slices.Clone(v.List)...)
		want.List[i] = null
		expectGet(t, v, []string{strconv.Itoa(i)}, num(i))
		expectDrop(t, v, []string{strconv.Itoa(i)}, want)
	}
	for _, step := range []string{"10000", "10001", "10002", "09999", strings.Repeat("1", 30)} {
		expectGet(t, v, []string{step}, missing)
		expectDrop(t, v, []string{step}, v)
	}
}
