package path

import (
	"math"
	"math/rand/v2"
	"strconv"
	"strings"
	"testing"

	"docstore/api"
	"docstore/sample"
)

var (
	missing = api.Value{}
	null    = api.Value{Kind: api.KindNull}
)

func num(n int) api.Value                      { return api.Value{Kind: api.KindInt, Int: n} }
func list(l ...api.Value) api.Value            { return api.Value{Kind: api.KindList, List: l} }
func doc(fields ...api.Field) api.Value        { return api.Value{Kind: api.KindDoc, Doc: fields} }
func field(name string, v api.Value) api.Field { return api.Field{Name: name, Value: v} }

// steps returns the steps of a text, valid or not: none for "".
func steps(s string) []string {
	if s == "" {
		return nil
	}
	return strings.Split(s, ".")
}

// val returns the value with a text like {a: [{b: 1}, 5, word], 0: null, c: none}, where none is the missing value, and other words are strings. It does not check the text.
func val(s string) api.Value {
	v, _ := scan(s)
	return v
}

// vals returns the values of a text like 1, [2, 3].
func vals(s string) []api.Value { return val("[" + s + "]").List }

// scan returns the value at the beginning of a text, and the rest of the text.
func scan(s string) (api.Value, string) {
	switch s[0] {
	case '{':
		return scanDoc(s[1:])
	case '[':
		return scanList(s[1:])
	}
	word, rest := scanWord(s)
	n, err := strconv.Atoi(word)
	switch {
	case word == "none":
		return missing, rest
	case word == "null":
		return null, rest
	case err == nil:
		return num(n), rest
	}
	return api.Value{Kind: api.KindText, Text: word}, rest
}

func scanDoc(s string) (api.Value, string) {
	d := doc()
	for s[0] != '}' {
		name, rest := scanWord(strings.TrimPrefix(s, ", "))
		v, rest := scan(strings.TrimPrefix(rest, ": "))
		d.Doc, s = append(d.Doc, field(name, v)), rest
	}
	return d, s[1:]
}

func scanList(s string) (api.Value, string) {
	l := list()
	for s[0] != ']' {
		v, rest := scan(strings.TrimPrefix(s, ", "))
		l.List, s = append(l.List, v), rest
	}
	return l, s[1:]
}

func scanWord(s string) (string, string) {
	end := strings.IndexAny(s, ":,]}")
	if end < 0 {
		end = len(s)
	}
	return s[:end], s[end:]
}

// The texts that the tests are written in stand for the values that they seem to.
func TestVal(t *testing.T) {
	want := doc(
		field("a", list(doc(field("b", num(1))), num(-5), doc())),
		field("0", null),
		field("$x", list()),
		field("", list(missing, list(api.Value{Kind: api.KindText, Text: "x y"}))),
	)
	expectValue(t, "val", val("{a: [{b: 1}, -5, {}], 0: null, $x: [], : [none, [x y]]}"), want)
	expectValues(t, "vals", vals("1, [2, 3]"), []api.Value{num(1), list(num(2), num(3))})
	expectValues(t, "vals", vals(""), nil)
}

func show(v api.Value) string { return brief(sample.Show(v)) }

func showAll(l []api.Value) string { return show(list(l...)) }

// brief shortens a string for a message.
func brief(s string) string {
	if len(s) > 300 {
		return s[:300] + ".."
	}
	return s
}

func identical(a, b api.Value) bool { return sample.Show(a) == sample.Show(b) }

func expectValue(t *testing.T, what string, got, want api.Value) {
	t.Helper()
	if !identical(got, want) {
		t.Errorf("%s: %s; expected %s", what, show(got), show(want))
	}
}

func expectValues(t *testing.T, what string, got, want []api.Value) {
	t.Helper()
	if !identical(list(got...), list(want...)) {
		t.Errorf("%s: %s; expected %s", what, showAll(got), showAll(want))
	}
}

// others returns values of every other kind than documents and lists, and of kinds that are not listed, with parts that do not count.
func others() []api.Value {
	var l []api.Value
	for _, kind := range []int{math.MinInt, -1, 0, api.KindMin, api.KindNull, api.KindInt, api.KindText, api.KindBytes, api.KindID, api.KindBool, api.KindTime, api.KindMax, 12, math.MaxInt} {
		l = append(l, api.Value{Kind: kind}, api.Value{Kind: kind, Int: 4, Text: "a", List: vals("{a: 1}, 2"), Doc: val("{a: 1, 0: 2, b: {a: 3}}").Doc})
	}
	return l
}

// randomValue returns a value with at most the given number of levels. The fields of a document have distinct names, some of which are numbers.
func randomValue(r *rand.Rand, levels int, withLists bool) api.Value {
	kind := r.IntN(6)
	if levels == 1 {
		kind = 0
	}
	switch {
	case kind > 3 && withLists:
		l := list()
		for range r.IntN(4) {
			l.List = append(l.List, randomValue(r, levels-1, withLists))
		}
		return l
	case kind > 0:
		d := doc()
		names := randomNames()
		r.Shuffle(len(names), func(i, j int) { names[i], names[j] = names[j], names[i] })
		for _, name := range names[:r.IntN(len(names)+1)] {
			d.Doc = append(d.Doc, field(name, randomValue(r, levels-1, withLists)))
		}
		return d
	case r.IntN(4) == 0:
		return null
	}
	return num(r.IntN(100))
}

func randomNames() []string { return []string{"a", "0", "1", "2"} }

// randomSteps returns up to four steps, which often select something in a random value.
func randomSteps(r *rand.Rand) []string {
	p := make([]string, r.IntN(5))
	for i := range p {
		p[i] = randomNames()[r.IntN(4)]
	}
	return p
}

// everyPath returns all paths of one to three steps that can select something in a random value.
func everyPath() [][]string {
	var all [][]string
	longest := [][]string{nil}
	for range 3 {
		var longer [][]string
		for _, p := range longest {
			for _, name := range randomNames() {
				longer = append(longer, append(p[:len(p):len(p)], name))
			}
		}
		all, longest = append(all, longer...), longer
	}
	return all
}
