package value

import (
	"math/rand/v2"
	"testing"

	"docstore/api"
	"docstore/sample"
)

// notDocuments returns values of other kinds, each of which contains a field a that must not be found.
func notDocuments() []api.Value {
	l := []api.Value{{}}
	for _, kind := range []int{-1, 0, api.KindMin, api.KindNull, api.KindInt, api.KindText, api.KindList, api.KindBytes, api.KindID, api.KindBool, api.KindTime, api.KindMax, 12} {
		l = append(l, api.Value{Kind: kind, Int: 4, Text: "a", List: []api.Value{num(1)}, Doc: []api.Field{field("a", num(1))}})
	}
	return append(l, list(doc(field("a", num(1)))))
}

// P1.6.
func TestGet(t *testing.T) {
	d := doc(field("a", num(1)), field("b", num(2)), field("c", list(num(3))), field("b", num(4)), field("", num(5)), field("$x", num(6)), field("none", api.Value{}))
	for _, c := range []struct {
		name string
		want api.Value
		ok   bool
	}{
		{"a", num(1), true},
		{"b", num(2), true},
		{"c", list(num(3)), true},
		{"", num(5), true},
		{"$x", num(6), true},
		{"none", api.Value{}, true},
		{"A", api.Value{}, false},
		{"d", api.Value{}, false},
		{"c.0", api.Value{}, false},
		{"0", api.Value{}, false},
	} {
		got, ok := Get(d, c.name)
		expectValue(t, "Get of "+c.name, got, c.want)
		if ok != c.ok {
			t.Errorf("Get of %q: %t; expected %t", c.name, ok, c.ok)
		}
	}
	if got, ok := Get(doc(), "a"); ok || !identical(got, api.Value{}) {
		t.Errorf("Get of an empty document: %s, %t", show(got), ok)
	}
}

// P1.6: a value of another kind has no fields.
func TestGetOfOtherKinds(t *testing.T) {
	for _, v := range notDocuments() {
		if got, ok := Get(v, "a"); ok || !identical(got, api.Value{}) {
			t.Errorf("Get of %s: %s, %t", show(v), show(got), ok)
		}
	}
}

// P1.7.
func TestSet(t *testing.T) {
	a, b := field("a", num(1)), field("b", num(2))
	for _, c := range []struct {
		d    api.Value
		name string
		v    api.Value
		want api.Value
	}{
		{doc(a, b), "a", num(3), doc(field("a", num(3)), b)},
		{doc(a, b), "b", num(3), doc(a, field("b", num(3)))},
		{doc(a), "c", num(3), doc(a, field("c", num(3)))},
		{doc(), "c", num(3), doc(field("c", num(3)))},
		{doc(a, b, a), "a", num(3), doc(field("a", num(3)), b, a)},
		{doc(a, b, b), "b", list(), doc(a, field("b", list()), b)},
		{doc(a), "", num(3), doc(a, field("", num(3)))},
		{doc(field("", num(1)), a), "", num(3), doc(field("", num(3)), a)},
		{doc(a), "$set", doc(a), doc(a, field("$set", doc(a)))},
		{doc(a), "a.b", num(3), doc(a, field("a.b", num(3)))},
		{doc(a), "a", api.Value{}, doc(field("a", api.Value{}))},
		{doc(a), "b", api.Value{Kind: 77, Text: "x"}, doc(a, field("b", api.Value{Kind: 77, Text: "x"}))},
		{doc(field("a", doc(a))), "a", doc(b), doc(field("a", doc(b)))},
	} {
		before := show(c.d)
		expectValue(t, "Set of "+c.name+" in "+before, Set(c.d, c.name, c.v), c.want)
		if show(c.d) != before {
			t.Errorf("Set changed %s to %s", before, show(c.d))
		}
	}
	odd := api.Value{Kind: api.KindDoc, Int: 5, Text: "t", List: sample.Nulls(2).List, Doc: []api.Field{a}}
	want := api.Value{Kind: api.KindDoc, Int: 5, Text: "t", List: sample.Nulls(2).List, Doc: []api.Field{a, b}}
	expectValue(t, "Set in a document with other fields of the struct", Set(odd, "b", num(2)), want)
}

// P1.7, P1.8: a value of another kind is returned as it is.
func TestSetAndRemoveOfOtherKinds(t *testing.T) {
	for _, v := range notDocuments() {
		expectValue(t, "Set", Set(v, "a", num(9)), v)
		expectValue(t, "Set", Set(v, "new", num(9)), v)
		expectValue(t, "Remove", Remove(v, "a"), v)
		expectValue(t, "Remove", Remove(v, "new"), v)
	}
}

// P1.8.
func TestRemove(t *testing.T) {
	a, b := field("a", num(1)), field("b", num(2))
	for _, c := range []struct {
		d    api.Value
		name string
		want api.Value
	}{
		{doc(a, b), "a", doc(b)},
		{doc(a, b), "b", doc(a)},
		{doc(a), "a", doc()},
		{doc(a, b), "c", doc(a, b)},
		{doc(), "a", doc()},
		{doc(a, b), "", doc(a, b)},
		{doc(field("", null), a), "", doc(a)},
		{doc(a, b, field("a", num(3))), "a", doc(b, field("a", num(3)))},
		{doc(a, a, a), "a", doc(a, a)},
		{doc(b, field("c", doc(a))), "a", doc(b, field("c", doc(a)))},
		{doc(b, field("$x", api.Value{}), a), "$x", doc(b, a)},
	} {
		before := show(c.d)
		expectValue(t, "Remove of "+c.name+" in "+before, Remove(c.d, c.name), c.want)
		if show(c.d) != before {
			t.Errorf("Remove changed %s to %s", before, show(c.d))
		}
	}
	odd := api.Value{Kind: api.KindDoc, Int: 5, Text: "t", List: sample.Nulls(2).List, Doc: []api.Field{a, b}}
	want := api.Value{Kind: api.KindDoc, Int: 5, Text: "t", List: sample.Nulls(2).List, Doc: []api.Field{b}}
	expectValue(t, "Remove in a document with other fields of the struct", Remove(odd, "a"), want)
}

// P1.11: after Set, Get returns the value, and every other field is as before.
func TestGetAfterSet(t *testing.T) {
	r := rand.New(rand.NewPCG(6, 6))
	for range 3000 {
		d := randomValue(r, 4)
		d.Kind = api.KindDoc
		name := string(rune('a' + r.IntN(5)))
		v := randomValue(r, 3)
		after := Set(d, name, v)
		if got, ok := Get(after, name); !ok || !identical(got, v) {
			t.Fatalf("Get after Set of %s: %s, %t", show(v), show(got), ok)
		}
		_, had := Get(d, name)
		expectOthersAsBefore(t, d, after, name, had)
	}
}

// expectOthersAsBefore compares field by field, except for the first one with the name.
func expectOthersAsBefore(t *testing.T, d, after api.Value, name string, had bool) {
	t.Helper()
	want := len(d.Doc)
	if !had {
		want++
	}
	if len(after.Doc) != want {
		t.Fatalf("Set of %s in %s: %s", name, show(d), show(after))
	}
	skipped := false
	for i, f := range d.Doc {
		if f.Name == name && !skipped {
			skipped = true
		} else if after.Doc[i].Name != f.Name || !identical(after.Doc[i].Value, f.Value) {
			t.Fatalf("Set of %s in %s: %s", name, show(d), show(after))
		}
	}
}
