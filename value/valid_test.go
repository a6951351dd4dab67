package value

import (
	"fmt"
	"math"
	"math/rand/v2"
	"strings"
	"testing"

	"docstore/api"
	"docstore/sample"
)

func expectValid(t *testing.T, what string, v api.Value, want bool) {
	t.Helper()
	if got := Valid(v); got != want {
		t.Errorf("Valid of %s: %t; expected %t", what, got, want)
	}
}

// P1.1: the conditions of the kinds.
func TestValidConditions(t *testing.T) {
	for _, v := range validPool() {
		expectValid(t, show(v), v, true)
	}
	for _, v := range invalidPool() {
		expectValid(t, show(v), v, false)
	}
	for n := -3; n <= 4; n++ {
		expectValid(t, fmt.Sprint("the boolean ", n), boolean(n), n == 0 || n == 1)
		expectValid(t, fmt.Sprint("the time ", n), instant(n), n >= 0)
		expectValid(t, fmt.Sprint("the integer ", n), num(n), true)
	}
	expectValid(t, "the least time", instant(math.MinInt), false)
	for n := range 30 {
		expectValid(t, fmt.Sprint("an ID of bytes: ", n), id(strings.Repeat("\xfe", n)), n == 12)
	}
}

// P1.1: kinds that are not listed.
func TestValidKinds(t *testing.T) {
	for _, kind := range []int{math.MinInt, -11, -1, 0, 12, 13, 1 << 8, 1<<8 + api.KindNull, 1<<32 + api.KindInt, math.MaxInt} {
		expectValid(t, fmt.Sprint("the kind ", kind), api.Value{Kind: kind}, false)
		expectValid(t, fmt.Sprint("a list of the kind ", kind), list(null, api.Value{Kind: kind}), false)
		expectValid(t, fmt.Sprint("a document of the kind ", kind), doc(field("a", api.Value{Kind: kind})), false)
	}
}

// P1.1: a field of the struct that the kind does not use has to be zero or empty.
func TestValidUnusedFields(t *testing.T) {
	uses := map[int]string{
		api.KindMin: "", api.KindNull: "", api.KindMax: "",
		api.KindInt: "Int", api.KindBool: "Int", api.KindTime: "Int",
		api.KindText: "Text", api.KindBytes: "Text", api.KindID: "Text",
		api.KindList: "List", api.KindDoc: "Doc",
	}
	fill := map[string]func(v *api.Value){
		"Int":  func(v *api.Value) { v.Int = 1 },
		"Text": func(v *api.Value) { v.Text = "0123456789ab" },
		"List": func(v *api.Value) { v.List = []api.Value{null} },
		"Doc":  func(v *api.Value) { v.Doc = []api.Field{field("a", null)} },
	}
	for kind, used := range uses {
		proper := api.Value{Kind: kind}
		if used != "" {
			fill[used](&proper)
		}
		expectValid(t, show(proper), proper, true)
		for name, set := range fill {
			if name == used {
				continue
			}
			v := proper
			set(&v)
			expectValid(t, show(v), v, false)
			expectValid(t, "a list of "+show(v), list(null, v), false)
			expectValid(t, "a document of "+show(v), doc(field("a", v)), false)
		}
		proper.List = append([]api.Value{}, proper.List...)
		proper.Doc = append([]api.Field{}, proper.Doc...)
		expectValid(t, "empty lists that are not nil, in "+show(proper), proper, true)
	}
}

// P1.1: a nil list is the same as an empty one.
func TestValidEmptyLists(t *testing.T) {
	expectValid(t, "a nil list", api.Value{Kind: api.KindList}, true)
	expectValid(t, "an empty list", api.Value{Kind: api.KindList, List: []api.Value{}}, true)
	expectValid(t, "a nil document", api.Value{Kind: api.KindDoc}, true)
	expectValid(t, "an empty document", api.Value{Kind: api.KindDoc, Doc: []api.Field{}}, true)
}

// P1.1: texts are UTF-8, bytes are not, and both are limited by their bytes.
func TestValidTexts(t *testing.T) {
	for s, ok := range map[string]bool{
		"":                     true,
		"\x00":                 true,
		"plain":                true,
		"\u00e9":               true,
		"\ufffd":               true,
		"\ud7ff":               true,
		"\ue000":               true,
		"\U0010ffff":           true,
		"\x80":                 false,
		"a\xc3":                false,
		"\xc0\x80":             false,
		"\xe0\x80\x80":         false,
		"\xed\xa0\x80":         false,
		"\xed\xbf\xbf":         false,
		"\xf4\x90\x80\x80":     false,
		"\xf8\x88\x80\x80\x80": false,
	} {
		expectValid(t, fmt.Sprintf("the text %q", s), text(s), ok)
		expectValid(t, fmt.Sprintf("the bytes %q", s), octets(s), true)
	}
	most := strings.Repeat("a", api.MaxText)
	wide := strings.Repeat("\u00e9", api.MaxText/2)
	for _, of := range []func(string) api.Value{text, octets} {
		expectValid(t, "MaxText bytes", of(most), true)
		expectValid(t, "MaxText bytes of two-byte runes", of(wide), true)
		expectValid(t, "MaxText+1 bytes", of(most+"a"), false)
		expectValid(t, "MaxText+1 bytes of two-byte runes", of(wide+"a"), false)
		expectValid(t, "twice MaxText bytes", of(most+most), false)
	}
}

// P1.1: the names of fields.
func TestValidNames(t *testing.T) {
	most := strings.Repeat("n", api.MaxName)
	for name, ok := range map[string]bool{
		"a": true, "_id": true, "0": true, "-1": true, "!": true, "~": true, "a$": true, "\"": true, "\\": true, most: true,
		"": false, "$": false, "$a": false, ".": false, "a.": false, ".a": false, "a.b": false, " ": false, "a ": false, " a": false,
		"\x00": false, "\x1f": false, "\x7f": false, "a\x7f": false, "\x80": false, "\xff": false, "\u00e9": false, "a\n": false, most + "n": false,
	} {
		expectValid(t, fmt.Sprintf("the name %q", name), doc(field(name, null)), ok)
		expectValid(t, fmt.Sprintf("the second name %q", name), doc(field("first", null), field(name, null)), ok)
		expectValid(t, fmt.Sprintf("the inner name %q", name), list(doc(field("a", doc(field(name, null))))), ok)
	}
	for b := range 256 {
		name := string([]byte{'a', byte(b)})
		expectValid(t, fmt.Sprintf("the name %q", name), doc(field(name, null)), b >= 0x21 && b <= 0x7e && b != '.')
	}
}

// P1.1: the names of one document are distinct.
func TestValidRepeatedNames(t *testing.T) {
	for _, n := range []int{2, 3, 8, 9, 20, 500} {
		expectValid(t, fmt.Sprint("distinct fields: ", n), sample.Numbered(n), true)
		for _, i := range []int{0, (n - 2) / 2, n - 2} {
			fields := sample.Numbered(n).Doc
			fields[n-1].Name = fields[i].Name
			expectValid(t, fmt.Sprint("a repeated name among fields: ", n), doc(fields...), false)
		}
	}
	a := field("a", num(1))
	expectValid(t, "the name of an outer document", doc(field("a", doc(a))), true)
	expectValid(t, "the name of another document", list(doc(a), doc(a)), true)
	expectValid(t, "names that differ in case", doc(a, field("A", num(1))), true)
	expectValid(t, "a repeated name within", doc(field("b", list(doc(a, a)))), false)
}

// P1.1: exactly MaxDepth levels and one more.
func TestValidLevels(t *testing.T) {
	for _, nested := range []func(int, api.Value) api.Value{sample.NestedLists, sample.NestedDocs} {
		deepest := nested(api.MaxDepth, list())
		expectValid(t, "MaxDepth levels", deepest, true)
		expectValid(t, "MaxDepth+1 levels", nested(api.MaxDepth+1, list()), false)
		expectValid(t, "MaxDepth+1 levels behind others", list(num(1), nested(2, doc()), deepest), false)
		expectValid(t, "MaxDepth+1 levels before others", list(deepest, num(1)), false)
		expectValid(t, "2^16 levels", nested(1<<16, doc()), false)
	}
	scalar := list(num(1))
	for range api.MaxDepth - 2 {
		scalar = list(scalar)
	}
	expectValid(t, "MaxDepth levels with an integer", scalar, true)
	expectValid(t, "MaxDepth+1 levels with an integer", list(scalar), false)
}

// P1.1: exactly MaxNodes values and one more.
func TestValidNodes(t *testing.T) {
	expectValid(t, "a list of MaxNodes values", sample.Nulls(api.MaxNodes-1), true)
	expectValid(t, "a list of MaxNodes+1 values", sample.Nulls(api.MaxNodes), false)
	expectValid(t, "a document of MaxNodes values", sample.Numbered(api.MaxNodes-1), true)
	expectValid(t, "a document of MaxNodes+1 values", sample.Numbered(api.MaxNodes), false)
	half := sample.Nulls(api.MaxNodes/2 - 1)
	expectValid(t, "a nested list of MaxNodes values", list(half, sample.Nulls(api.MaxNodes/2-2)), true)
	expectValid(t, "a nested list of MaxNodes+1 values", list(half, half), false)
}

// P1.1: a part that is not valid makes the whole value invalid.
func TestValidParts(t *testing.T) {
	for _, v := range invalidPool() {
		expectValid(t, "a list with "+show(v), list(num(1), v, num(2)), false)
		expectValid(t, "a document with "+show(v), doc(field("a", num(1)), field("b", v)), false)
		expectValid(t, "a nested "+show(v), list(doc(field("a", list(list(), v)))), false)
	}
}

// levelsOf and nodesOf follow the definitions, without limits.
func levelsOf(v api.Value) int {
	most := 0
	for _, p := range partsOf(v) {
		most = max(most, levelsOf(p))
	}
	return most + 1
}

func nodesOf(v api.Value) int {
	n := 1
	for _, p := range partsOf(v) {
		n += nodesOf(p)
	}
	return n
}

func partsOf(v api.Value) []api.Value {
	var l []api.Value
	if v.Kind == api.KindList {
		l = append(l, v.List...)
	}
	if v.Kind == api.KindDoc {
		for _, f := range v.Doc {
			l = append(l, f.Value)
		}
	}
	return l
}

func expectCount(t *testing.T, what string, got, want int) {
	t.Helper()
	if got != want {
		t.Errorf("%s: %d; expected %d", what, got, want)
	}
}

// P1.2.
func TestDepth(t *testing.T) {
	inner := sample.NestedLists(5, list())
	for _, c := range []struct {
		what string
		v    api.Value
		want int
	}{
		{"an integer", num(1), 1},
		{"no value", api.Value{}, 1},
		{"an empty list", list(), 1},
		{"an empty document", doc(), 1},
		{"a list of an integer", list(num(1)), 2},
		{"a document of an integer", doc(field("a", num(1))), 2},
		{"a list whose first element is deepest", list(inner, num(1), list()), 6},
		{"a list whose last element is deepest", list(num(1), list(), inner), 6},
		{"a document whose middle field is deepest", doc(field("a", null), field("b", inner), field("c", null)), 6},
		{"lists and documents", list(doc(field("a", list(doc())))), 4},
		{"an integer with a list", api.Value{Kind: api.KindInt, List: []api.Value{inner}}, 1},
		{"an unknown kind with parts", api.Value{Kind: 99, List: []api.Value{inner}, Doc: []api.Field{field("a", inner)}}, 1},
		{"a list with fields", api.Value{Kind: api.KindList, List: []api.Value{null}, Doc: []api.Field{field("a", inner)}}, 2},
		{"a document with elements", api.Value{Kind: api.KindDoc, List: []api.Value{inner}, Doc: []api.Field{field("a", null)}}, 2},
		{"a document with invalid names", doc(field("", inner), field("", null)), 6},
		{"a list of invalid values", list(boolean(7), list(api.Value{Kind: -3})), 3},
	} {
		expectCount(t, "Depth of "+c.what, Depth(c.v), c.want)
	}
}

// P1.2: MaxDepth+1 stands for every greater number.
func TestDepthLimit(t *testing.T) {
	for levels := 1; levels <= api.MaxDepth+4; levels++ {
		want := min(levels, api.MaxDepth+1)
		expectCount(t, "Depth of nested lists", Depth(sample.NestedLists(levels, list())), want)
		expectCount(t, "Depth of nested documents", Depth(sample.NestedDocs(levels, doc())), want)
		expectCount(t, "Depth behind another element", Depth(list(num(1), sample.NestedLists(levels, list()))), min(levels+1, api.MaxDepth+1))
	}
	expectCount(t, "Depth of 2^16 lists", Depth(sample.NestedLists(1<<16, list())), api.MaxDepth+1)
	expectCount(t, "Depth of 2^16 documents", Depth(sample.NestedDocs(1<<16, doc())), api.MaxDepth+1)
}

// P1.3.
func TestNodes(t *testing.T) {
	for _, c := range []struct {
		what string
		v    api.Value
		want int
	}{
		{"an integer", num(1), 1},
		{"no value", api.Value{}, 1},
		{"an empty list", list(), 1},
		{"an empty document", doc(), 1},
		{"the document of the chapter", doc(field("a", num(1)), field("b", list(num(2), num(3)))), 5},
		{"nested lists", list(list(list()), list(null, null), null), 7},
		{"repeated names", doc(field("a", null), field("a", null)), 3},
		{"an integer with a list", api.Value{Kind: api.KindInt, List: sample.Nulls(3).List}, 1},
		{"an unknown kind with parts", api.Value{Kind: -9, List: sample.Nulls(3).List, Doc: sample.Numbered(3).Doc}, 1},
		{"a list with fields", api.Value{Kind: api.KindList, List: sample.Nulls(3).List, Doc: sample.Numbered(5).Doc}, 4},
		{"a document with elements", api.Value{Kind: api.KindDoc, List: sample.Nulls(3).List, Doc: sample.Numbered(5).Doc}, 6},
	} {
		expectCount(t, "Nodes of "+c.what, Nodes(c.v), c.want)
	}
}

// P1.3: MaxNodes+1 stands for every greater number.
func TestNodesLimit(t *testing.T) {
	for n := api.MaxNodes - 3; n <= api.MaxNodes+3; n++ {
		want := min(n, api.MaxNodes+1)
		expectCount(t, "Nodes of a list", Nodes(sample.Nulls(n-1)), want)
		expectCount(t, "Nodes of a document", Nodes(sample.Numbered(n-1)), want)
		expectCount(t, "Nodes of nested lists", Nodes(sample.NestedLists(n, list())), want)
		expectCount(t, "Nodes of a list of lists", Nodes(list(sample.Nulls(500), sample.Nulls(n-503))), want)
	}
	expectCount(t, "Nodes of 2^20 elements", Nodes(sample.Nulls(1<<20)), api.MaxNodes+1)
	expectCount(t, "Nodes of 2^16 levels", Nodes(sample.NestedDocs(1<<16, doc())), api.MaxNodes+1)
}

// P1.2, P1.3: both agree with their definitions for values of all forms.
func TestDepthAndNodesByDefinition(t *testing.T) {
	r := rand.New(rand.NewPCG(1, 1))
	for range 3000 {
		v := randomValue(r, 1+r.IntN(7))
		expectCount(t, "Depth of "+show(v), Depth(v), min(levelsOf(v), api.MaxDepth+1))
		expectCount(t, "Nodes of "+show(v), Nodes(v), min(nodesOf(v), api.MaxNodes+1))
	}
}

// P1.11: a part of a valid value is valid.
func TestPartsOfValidValues(t *testing.T) {
	r := rand.New(rand.NewPCG(2, 2))
	pool := append(validPool(), sample.NestedLists(api.MaxDepth, list()), sample.NestedDocs(api.MaxDepth, doc()), sample.Nulls(api.MaxNodes-1))
	for range 200000 {
		if v := randomValue(r, 1+r.IntN(4)); Valid(v) && len(partsOf(v)) > 0 {
			pool = append(pool, v)
		}
	}
	for _, v := range pool {
		expectValid(t, show(v), v, true)
		for _, p := range partsOf(v) {
			expectValid(t, "the part "+show(p), p, true)
		}
	}
}
