package value

import (
	"math"
	"math/rand/v2"
	"testing"

	"docstore/api"
	"docstore/sample"
)

var (
	least    = api.Value{Kind: api.KindMin}
	null     = api.Value{Kind: api.KindNull}
	greatest = api.Value{Kind: api.KindMax}
)

func num(n int) api.Value               { return api.Value{Kind: api.KindInt, Int: n} }
func boolean(n int) api.Value           { return api.Value{Kind: api.KindBool, Int: n} }
func instant(n int) api.Value           { return api.Value{Kind: api.KindTime, Int: n} }
func text(s string) api.Value           { return api.Value{Kind: api.KindText, Text: s} }
func octets(s string) api.Value         { return api.Value{Kind: api.KindBytes, Text: s} }
func id(s string) api.Value             { return api.Value{Kind: api.KindID, Text: s} }
func list(l ...api.Value) api.Value     { return api.Value{Kind: api.KindList, List: l} }
func doc(fields ...api.Field) api.Value { return api.Value{Kind: api.KindDoc, Doc: fields} }

func field(name string, v api.Value) api.Field { return api.Field{Name: name, Value: v} }

func show(v api.Value) string { return sample.Show(v) }

func showAll(l []api.Value) string { return show(list(l...)) }

func identical(a, b api.Value) bool { return show(a) == show(b) }

func expectValue(t *testing.T, what string, got, want api.Value) {
	t.Helper()
	if !identical(got, want) {
		t.Errorf("%s: %s; expected %s", what, show(got), show(want))
	}
}

// validPool returns values that are valid and differ from each other, in no particular order.
func validPool() []api.Value {
	return []api.Value{
		greatest, least, null,
		num(0), num(1), num(-1), num(math.MaxInt), num(math.MinInt),
		boolean(0), boolean(1),
		instant(0), instant(1), instant(math.MaxInt),
		text(""), text("a"), text("ab"), text("b"), text("\u00e9"), text("\U0010ffff"),
		octets(""), octets("a"), octets("\x00"), octets("\xff"),
		id("0123456789ab"), id("\x00\x00\x00\x00\x00\x00\x00\x00\x00\x00\x00\x00"), id("\xff123456789ab"),
		list(), list(null), list(num(1)), list(num(1), num(2)), list(num(2)), list(list()), list(doc()), list(text("")),
		doc(), doc(field("a", num(1))), doc(field("a", num(2))), doc(field("b", num(1))),
		doc(field("a", num(1)), field("b", num(1))), doc(field("b", num(1)), field("a", num(1))),
		doc(field("a", doc())), doc(field("a", list())), doc(field("a", list(num(1), doc(field("b", null))))),
		doc(field("ab", null)), doc(field("A", null)), doc(field("a", least)), doc(field("a", greatest)),
	}
}

// invalidPool returns values that are not valid, some of which are equal to others or to valid ones.
func invalidPool() []api.Value {
	return []api.Value{
		{}, {Int: 7}, {Kind: -1}, {Kind: -1, Text: "x"}, {Kind: 12}, {Kind: math.MaxInt}, {Kind: math.MinInt},
		{Kind: api.KindNull, Int: 3}, {Kind: api.KindMin, Text: "a"}, {Kind: api.KindMax, List: []api.Value{null}},
		{Kind: api.KindInt, Int: 1, Text: "a"}, {Kind: api.KindText, Text: "a", Int: 1},
		{Kind: api.KindList, Doc: []api.Field{field("a", null)}}, {Kind: api.KindDoc, List: []api.Value{null}},
		boolean(2), boolean(-1), instant(-1), text("\xff"), id(""), id("0123456789abc"),
		list(api.Value{}), list(boolean(2), num(1)),
		doc(field("a", num(1)), field("a", num(2))), doc(field("a", num(1)), field("a", num(1))),
		doc(field("", null)), doc(field("$a", null)), doc(field("a.b", api.Value{})),
	}
}

func fullPool() []api.Value { return append(validPool(), invalidPool()...) }

// randomValue returns a value of any kind, valid or not, with at most the given number of levels.
func randomValue(r *rand.Rand, levels int) api.Value {
	v := api.Value{Kind: r.IntN(14) - 1}
	if r.IntN(3) == 0 {
		v.Int = r.IntN(4) - 1
	}
	if r.IntN(3) == 0 {
		v.Text = string([]byte{byte(r.IntN(256)), 'a'}[:r.IntN(3)])
	}
	if levels == 1 {
		return v
	}
	if v.Kind == api.KindList || r.IntN(5) == 0 {
		for range r.IntN(4) {
			v.List = append(v.List, randomValue(r, levels-1))
		}
	}
	if v.Kind == api.KindDoc || r.IntN(5) == 0 {
		for range r.IntN(4) {
			v.Doc = append(v.Doc, field(string(rune('a'+r.IntN(3))), randomValue(r, levels-1)))
		}
	}
	return v
}
