package path

import (
	"slices"
	"testing"
	"unsafe"

	"docstore/api"
	"docstore/sample"
)

// nested returns a value with lists and documents at several levels, also in fields of the struct that the kinds do not use. Each call returns new memory.
func nested() api.Value {
	v := val("{a: [{b: [1, {c: 2}], 0: [3]}, [{b: 4}], {b: {c: [5]}}, [6]], d: {e: {f: [7]}}, odd: 8}")
	v.Doc[2].Value.List = vals("{a: [1]}, [2]")
	v.Doc[2].Value.Doc = val("{a: {b: [1]}}").Doc
	v.List = vals("[1], {a: 1}")
	return v
}

// paths returns paths that reach something in a nested value, and others.
func paths() [][]string {
	var l [][]string
	for _, p := range []string{"", "a", "a.0", "a.0.b", "a.b", "a.b.c", "a.1", "a.1.0", "a.1.0.b", "a.2", "a.2.b.c", "a.2.b.c.0", "a.3.0", "a.9", "a.9.x", "d", "d.e", "d.e.f", "d.e.f.2", "odd", "odd.a", "new", "new.x.y", "a.0.0"} {
		l = append(l, steps(p))
	}
	return l
}

// expectSeparate checks that the results share no memory with arguments or each other, and that changes of either do not reach the other.
func expectSeparate(t *testing.T, what string, results []api.Value, args ...api.Value) {
	t.Helper()
	if sample.Shared(results, args) {
		t.Errorf("%s: memory of the result occurs twice, or in an argument", what)
		return
	}
	before := showAll(args)
	for _, result := range results {
		sample.Scribble(result)
	}
	if showAll(args) != before {
		t.Errorf("%s: a change of the result changes an argument", what)
	}
}

// R5: the results that are values.
func TestResultsShareNoMemory(t *testing.T) {
	v, x := nested(), nested()
	for _, p := range paths() {
		expectSeparate(t, "Get of "+Text(p), []api.Value{Get(v, p)}, v)
		expectSeparate(t, "Drop of "+Text(p), []api.Value{Drop(v, p)}, v)
		expectSeparate(t, "Reach of "+Text(p), []api.Value{list(Reach(v, p)...)}, v)
		expectSeparate(t, "Leaves of "+Text(p), []api.Value{list(Leaves(v, p)...)}, v)
		expectSeparate(t, "two results of "+Text(p), []api.Value{Get(v, p), Drop(v, p), list(Reach(v, p)...), list(Leaves(v, p)...)}, v)
		for _, put := range []api.Value{x, v, list(x, x), num(1)} {
			result, _ := Put(v, p, put)
			again, _ := Put(v, p, put)
			expectSeparate(t, "Put at "+Text(p), []api.Value{result, again}, v, put)
		}
	}
	for _, p := range paths() {
		expectSeparate(t, "a list by "+Text(p), []api.Value{list(Leaves(list(v, list(v), v), p)...)}, v)
	}
	expectSeparate(t, "Reach by many ways", []api.Value{list(Reach(alternating(12, v), steps("0.0.0"))...)}, v)
}

// R5: an argument that contains the same memory twice, or has room for more parts, gives results with memory of their own.
func TestSharedArguments(t *testing.T) {
	shared := nested()
	v := doc(field("a", list(shared, shared)), field("b", shared), field("c", list(num(1))))
	for _, p := range [][]string{nil, steps("a"), steps("a.a"), steps("a.0.a"), steps("a.1"), steps("b.a.b"), steps("c")} {
		expectSeparate(t, "Reach of "+Text(p), []api.Value{list(Reach(v, p)...)}, v)
		expectSeparate(t, "Leaves of "+Text(p), []api.Value{list(Leaves(v, p)...)}, v)
		expectSeparate(t, "Drop of "+Text(p), []api.Value{Drop(v, p), Get(v, p)}, v)
		result, _ := Put(v, append(p, "3"), shared)
		expectSeparate(t, "Put below "+Text(p), []api.Value{result}, v)
	}
	roomy := doc(make([]api.Field, 1, 8)...)
	roomy.Doc[0] = field("l", list(make([]api.Value, 1, 8)...))
	Put(roomy, steps("b"), num(2))
	Put(roomy, steps("l.3"), num(2))
	if room := roomy.Doc[:2]; room[1].Name != "" || room[0].Value.List[:4][3].Kind != api.KindNone {
		t.Error("Put wrote behind the parts of its argument")
	}
	two := doc(field("a", num(1)), field("b", num(2)))
	if Drop(two, steps("a")); !identical(two, val("{a: 1, b: 2}")) {
		t.Errorf("Drop changed its argument to %s", show(two))
	}
}

// R5: a later change of an argument does not change a result.
func TestArgumentsAreNotKept(t *testing.T) {
	for _, p := range paths() {
		v, x := nested(), nested()
		put, _ := Put(v, p, x)
		results := append(append(Reach(v, p), Leaves(v, p)...), Get(v, p), Drop(v, p), put)
		before := sample.Show(list(results...))
		sample.Scribble(v)
		sample.Scribble(x)
		for i := range p {
			p[i] = "scribbled"
		}
		if sample.Show(list(results...)) != before {
			t.Errorf("a change of an argument changes a result: %s", showAll(results))
		}
	}
}

// R5: no function changes its arguments.
func TestArgumentsAreUnchanged(t *testing.T) {
	for i, p := range paths() {
		for _, v := range append(others(), nested(), list(nested(), num(1))) {
			x := nested()
			before := sample.Show(list(v, x))
			Reach(v, p)
			Leaves(v, p)
			Get(v, p)
			Put(v, p, x)
			Drop(v, p)
			Text(p)
			Valid(p)
			Overlap(p, p)
			if sample.Show(list(v, x)) != before || !slices.Equal(p, paths()[i]) {
				t.Errorf("the arguments were changed, by the path %q", paths()[i])
			}
		}
	}
}

// R5: the steps of a text are no part of it, and belong to one result only.
func TestParsedMemory(t *testing.T) {
	s := Text([]string{"abc", "0", "def"})
	first, _ := Parse(s)
	second, _ := Parse(s)
	from := uintptr(unsafe.Pointer(unsafe.StringData(s)))
	for _, step := range first {
		if at := uintptr(unsafe.Pointer(unsafe.StringData(step))); from <= at && at < from+uintptr(len(s)) {
			t.Errorf("%q lies within the text", step)
		}
	}
	for i := range first[:cap(first)] {
		first[:cap(first)][i] = "scribbled"
	}
	if !slices.Equal(second, []string{"abc", "0", "def"}) || s != "abc.0.def" {
		t.Errorf("a change of a result changes another one to %q", second)
	}
}
