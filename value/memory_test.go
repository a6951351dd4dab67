package value

import (
	"testing"

	"docstore/api"
	"docstore/sample"
)

// nestedSample returns a value with lists and documents at several levels, also in fields that the kinds do not use. Each call returns new memory.
func nestedSample() api.Value {
	inner := doc(field("x", list(num(1), doc(field("y", list(num(2)))))), field("z", doc(field("w", null))))
	odd := api.Value{Kind: api.KindInt, Int: 3, List: []api.Value{list(num(4))}, Doc: []api.Field{field("q", list(null))}}
	return api.Value{
		Kind: api.KindDoc,
		List: []api.Value{list(null), doc(field("p", list(null)))},
		Doc:  []api.Field{field("a", inner), field("odd", odd), field("l", list(list(num(5)), doc(field("m", num(6)))))},
	}
}

// expectSeparate checks that no memory occurs twice within a result, or in the result and an argument, and that changes of either do not reach the other.
func expectSeparate(t *testing.T, what string, result api.Value, args ...api.Value) {
	t.Helper()
	if sample.Shared([]api.Value{result}, args) {
		t.Errorf("%s: memory of the result occurs twice, or in an argument", what)
		return
	}
	before := showAll(args)
	sample.Scribble(result)
	if showAll(args) != before {
		t.Errorf("%s: a change of the result changes an argument", what)
	}
}

// P1.12: results of Get, Set and Remove.
func TestFieldsShareNoMemory(t *testing.T) {
	d, v := nestedSample(), nestedSample()
	for _, f := range d.Doc {
		got, _ := Get(d, f.Name)
		expectSeparate(t, "Get of "+f.Name, got, d)
	}
	for _, name := range []string{"a", "odd", "l", "new"} {
		expectSeparate(t, "Set of "+name, Set(d, name, v), d, v)
		expectSeparate(t, "Set of the document itself as "+name, Set(d, name, d), d)
		expectSeparate(t, "Remove of "+name, Remove(d, name), d)
	}
	for _, kind := range []int{api.KindNone, api.KindNull, api.KindInt, api.KindText, api.KindList, 99} {
		other := nestedSample()
		other.Kind = kind
		expectSeparate(t, "Set in another kind", Set(other, "a", v), other, v)
		expectSeparate(t, "Remove in another kind", Remove(other, "a"), other)
	}
}

// P1.12: an argument that contains the same memory twice, or has room for more elements, gives a result with memory of its own.
func TestSharedArguments(t *testing.T) {
	shared := nestedSample()
	d := doc(field("a", shared), field("b", list(shared, shared)), field("c", num(1)))
	got, _ := Get(d, "b")
	expectSeparate(t, "Get", got, d)
	expectSeparate(t, "Set", Set(d, "c", shared), d)
	expectSeparate(t, "Set of a new field", Set(d, "d", shared), d)
	expectSeparate(t, "Remove", Remove(d, "c"), d)
	expectSeparate(t, "Sort", list(Sort([]api.Value{shared, num(1), shared})...), shared)

	roomy := make([]api.Field, 1, 8)
	roomy[0] = field("a", num(1))
	full := doc(roomy...)
	Set(full, "b", num(2))
	if roomy[:2][1].Name != "" {
		t.Error("Set wrote behind the fields of its argument")
	}
	expectSeparate(t, "Set with room", Set(full, "b", num(2)), full)
}

// P1.12: the result of Sort.
func TestSortSharesNoMemory(t *testing.T) {
	l := []api.Value{nestedSample(), list(num(2), nestedSample()), num(1), nestedSample(), list(num(1))}
	expectSeparate(t, "Sort", list(Sort(l)...), list(l...))
	expectSeparate(t, "Sort of one value", list(Sort(l[:1])...), list(l...))
}

// P1.12: a later change of an argument does not change a result.
func TestArgumentsAreNotKept(t *testing.T) {
	d, v := nestedSample(), nestedSample()
	l := []api.Value{nestedSample(), nestedSample()}
	got, _ := Get(d, "a")
	results := []api.Value{got, Set(d, "a", v), Set(d, "new", v), Remove(d, "a"), list(Sort(l)...)}
	before := showAll(results)
	sample.Scribble(d)
	sample.Scribble(v)
	sample.Scribble(list(l...))
	if showAll(results) != before {
		t.Error("a change of an argument changes a result")
	}
}

// R5: no function changes its arguments.
func TestArgumentsAreUnchanged(t *testing.T) {
	for _, d := range append(fullPool(), nestedSample()) {
		for _, v := range []api.Value{num(1), nestedSample()} {
			before := show(d) + show(v)
			Valid(d)
			Depth(d)
			Nodes(d)
			Compare(d, v)
			Equal(v, d)
			Get(d, "a")
			Set(d, "a", v)
			Remove(d, "a")
			Sort([]api.Value{v, d})
			if show(d)+show(v) != before {
				t.Errorf("the arguments %s were changed to %s", before, show(d)+show(v))
			}
		}
	}
}

// R1: values of 2^16 levels are copied.
func TestDeepValuesAreCopied(t *testing.T) {
	deep := sample.NestedDocs(1<<16, doc())
	if got := Set(doc(field("b", deep)), "a", deep); len(got.Doc) != 2 || Compare(got.Doc[1].Value, deep) != 0 {
		t.Error("Set of a deep value")
	}
	if got, ok := Get(doc(field("a", deep)), "a"); !ok || Compare(got, deep) != 0 {
		t.Error("Get of a deep value")
	}
	if got := Remove(deep, "b"); Compare(got, deep) != 0 {
		t.Error("Remove in a deep value")
	}
	if got := Sort([]api.Value{deep, sample.NestedDocs(2, doc())}); len(got) != 2 || Compare(got[1], deep) != 0 {
		t.Error("Sort of deep values")
	}
}
