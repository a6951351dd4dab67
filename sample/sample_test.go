package sample

import (
	"slices"
	"testing"

	"docstore/api"
)

// The values lie at the limits that the tests of the layers rely on.
func TestSizes(t *testing.T) {
	inner := api.Value{Kind: api.KindDoc}
	for levels := 1; levels <= 4; levels++ {
		if cells := len(Cells(NestedLists(levels, inner))); cells != levels-1 {
			t.Errorf("%d lists have %d cells", levels-1, cells)
		}
		if texts := len(Texts(NestedDocs(levels, inner))); texts != 2*levels-1 {
			t.Errorf("%d documents have %d texts", levels, texts)
		}
	}
	if v := Nulls(5); v.Kind != api.KindList || len(v.List) != 5 || v.List[4].Kind != api.KindNull {
		t.Errorf("five nulls: %+v", v)
	}
	v := Numbered(3)
	if names := Texts(v); v.Kind != api.KindDoc || !slices.Equal(names, []string{"", "f0", "", "f1", "", "f2", ""}) {
		t.Errorf("three numbered fields: %q", names)
	}
}

// Cells finds memory that two values share, at every level and behind the ends of slices.
func TestCells(t *testing.T) {
	inner := NestedDocs(3, Nulls(2))
	outer := api.Value{Kind: api.KindList, List: make([]api.Value, 1, 2)}
	outer.List[0] = inner
	all := Cells(outer)
	if len(all) != 6 || !slices.Equal(all[1:5], Cells(inner)) || all[5] != &outer.List[:2][1] {
		t.Errorf("%d cells", len(all))
	}
}

// Show tells apart what differs in any field of the struct, and nothing else.
func TestShow(t *testing.T) {
	field := api.Field{Name: "a", Value: api.Value{Kind: 1}}
	seen := map[string]bool{}
	for _, v := range []api.Value{
		{}, {Kind: 1}, {Int: 1}, {Int: -1}, {Text: "a"}, {Text: "\xff"}, {Text: "\ufffd"}, {Text: "[] ()"},
		{List: []api.Value{{}}}, {List: []api.Value{{}, {}}}, {List: []api.Value{{Int: 1}}}, {List: []api.Value{{List: []api.Value{{}}}}},
		{Doc: []api.Field{{}}}, {Doc: []api.Field{field}}, {Doc: []api.Field{field, field}}, {Doc: []api.Field{{Name: "b", Value: field.Value}}},
		{List: []api.Value{{Doc: []api.Field{field}}}}, {Doc: []api.Field{{Name: "a", Value: api.Value{Doc: []api.Field{field}}}}},
	} {
		if seen[Show(v)] {
			t.Errorf("%+v is shown like another value", v)
		}
		seen[Show(v)] = true
	}
	if Show(api.Value{Kind: 5}) != Show(api.Value{Kind: 5, List: []api.Value{}, Doc: []api.Field{}}) {
		t.Error("nil lists and empty lists are shown differently")
	}
}

// Shared finds memory that occurs twice, except within the arguments.
func TestShared(t *testing.T) {
	inner := NestedDocs(2, Nulls(2))
	other := NestedDocs(2, Nulls(2))
	twice := api.Value{Kind: api.KindList, List: []api.Value{inner, inner}}
	for _, c := range []struct {
		results, args []api.Value
		want          bool
	}{
		{nil, nil, false},
		{[]api.Value{inner, other}, nil, false},
		{[]api.Value{inner}, []api.Value{other}, false},
		{[]api.Value{other}, []api.Value{twice, inner}, false},
		{[]api.Value{inner, inner}, nil, true},
		{[]api.Value{twice}, nil, true},
		{[]api.Value{other, inner}, []api.Value{twice}, true},
		{[]api.Value{inner.Doc[0].Value}, []api.Value{other, inner}, true},
	} {
		if got := Shared(c.results, c.args); got != c.want {
			t.Errorf("Shared of %+v, %+v: %t", c.results, c.args, got)
		}
	}
}

// Scribble leaves nothing within a value as it was.
func TestScribble(t *testing.T) {
	v := api.Value{Kind: api.KindList, List: []api.Value{NestedDocs(2, Nulls(1)), {Kind: api.KindNull}}}
	inner := v.List[0].Doc
	deepest := inner[0].Value.List
	Scribble(v)
	for _, text := range append(Texts(v)[1:], inner[0].Name, inner[0].Value.Text, deepest[0].Text) {
		if text != "scribbled" {
			t.Errorf("%q is left", text)
		}
	}
}
