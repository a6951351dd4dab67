package notation

import (
	"math"
	"strings"
	"testing"

	"docstore/api"
	"docstore/sample"
)

var (
	least    = api.Value{Kind: api.KindMin}
	null     = api.Value{Kind: api.KindNull}
	greatest = api.Value{Kind: api.KindMax}
)

func num(n int) api.Value               { return api.Value{Kind: api.KindInt, Int: n} }
func boolean(n int) api.Value           { return api.Value{Kind: api.KindBool, Int: n} }
func instant(n int) api.Value           { return api.Value{Kind: api.KindTime, Int: n} }
func text(s string) api.Value           { return api.Value{Kind: api.KindText, Text: s} }
func octets(s string) api.Value         { return api.Value{Kind: api.KindBytes, Text: s} }
func id(s string) api.Value             { return api.Value{Kind: api.KindID, Text: s} }
func list(l ...api.Value) api.Value     { return api.Value{Kind: api.KindList, List: l} }
func doc(fields ...api.Field) api.Value { return api.Value{Kind: api.KindDoc, Doc: fields} }

func field(name string, v api.Value) api.Field { return api.Field{Name: name, Value: v} }

// only returns a document with one field.
func only(name string, v api.Value) api.Value { return doc(field(name, v)) }

func show(v api.Value) string { return brief(sample.Show(v)) }

// brief shortens a string for a message.
func brief(s string) string {
	if len(s) > 200 {
		return s[:100] + " .. " + s[len(s)-90:]
	}
	return s
}

func identical(a, b api.Value) bool { return sample.Show(a) == sample.Show(b) }

func expectParse(t *testing.T, s string, want api.Value) {
	t.Helper()
	if v, at, errno := Parse(s); !identical(v, want) || at != 0 || errno != api.OK {
		t.Errorf("Parse of %q: %s, %d, error %d; expected %s", brief(s), show(v), at, errno, show(want))
	}
}

// expectRefused checks that Parse returns an error and its offset, and no value.
func expectRefused(t *testing.T, s string, wantAt int, wantErrno api.Errno) {
	t.Helper()
	if v, at, errno := Parse(s); !identical(v, api.Value{}) || at != wantAt || errno != wantErrno {
		t.Errorf("Parse of %q: %s, %d, error %d; expected %d, error %d", brief(s), show(v), at, errno, wantAt, wantErrno)
	}
}

func expectPrint(t *testing.T, v api.Value, want string) {
	t.Helper()
	if s, errno := Print(v); s != want || errno != api.OK {
		t.Errorf("Print of %s: %q, error %d; expected %q", show(v), brief(s), errno, brief(want))
	}
}

// expectUnprintable checks that Print returns an error and no text.
func expectUnprintable(t *testing.T, v api.Value, want api.Errno) {
	t.Helper()
	if s, errno := Print(v); s != "" || errno != want {
		t.Errorf("Print of %s: %q, error %d; expected error %d", show(v), brief(s), errno, want)
	}
}

// written is a value with its text.
type written struct {
	v api.Value
	s string
}

// writtenPool returns values of every kind, which differ from each other, with texts that are written out.
func writtenPool() []written {
	return []written{
		{null, `null`},
		{boolean(1), `true`},
		{boolean(0), `false`},
		{num(0), `0`},
		{num(1), `1`},
		{num(-1), `-1`},
		{num(10), `10`},
		{num(-120), `-120`},
		{num(math.MaxInt), `9223372036854775807`},
		{num(math.MinInt), `-9223372036854775808`},
		{text(""), `""`},
		{text("a b"), `"a b"`},
		{text("null"), `"null"`},
		{text("\u00e9\uffff\U0010ffff"), "\"\u00e9\uffff\U0010ffff\""},
		{text("\"\\/\b\f\n\r\t\x00\x1f\x7f"), `"\"\\/\u0008\u000c\n\r\t\u0000\u001f\u007f"`},
		{octets(""), `{"$bytes":""}`},
		{octets("\x00\x9f\xab"), `{"$bytes":"009fab"}`},
		{id("\x01\x23\x45\x67\x89\xab\xcd\xef\x00\xff\x10\x0a"), `{"$id":"0123456789abcdef00ff100a"}`},
		{instant(0), `{"$time":0}`},
		{instant(math.MaxInt), `{"$time":9223372036854775807}`},
		{least, `{"$min":1}`},
		{greatest, `{"$max":1}`},
		{list(), `[]`},
		{list(num(2), null, text("x")), `[2,null,"x"]`},
		{list(list(), list(list()), doc()), `[[],[[]],{}]`},
		{list(least, octets("a"), greatest), `[{"$min":1},{"$bytes":"61"},{"$max":1}]`},
		{doc(), `{}`},
		{only("a", list(num(1), least)), `{"a":[1,{"$min":1}]}`},
		{doc(field("b", null), field("a", only("b", boolean(1)))), `{"b":null,"a":{"b":true}}`},
		{doc(field(" ", num(1)), field(`"\`, num(2)), field("~", num(3))), `{" ":1,"\"\\":2,"~":3}`},
		{only("$set", only("a.b", num(1))), `{"$set":{"a.b":1}}`},
		{only("$id", text("0123456789ABCDEF00FF100A")), `{"$id":"0123456789ABCDEF00FF100A"}`},
		{doc(field("$min", num(1)), field("$max", num(1))), `{"$min":1,"$max":1}`},
	}
}

// P5.2, P5.3: values of every kind and their texts.
func TestTexts(t *testing.T) {
	for _, c := range writtenPool() {
		expectPrint(t, c.v, c.s)
		expectParse(t, c.s, c.v)
		expectParse(t, " \t\n\r"+c.s+"\r\n\t ", c.v)
	}
}

// expectWithin checks the error of a text, alone and behind beginnings of other texts.
func expectWithin(t *testing.T, s string, at int, errno api.Errno) {
	t.Helper()
	for _, before := range []string{"", "  \n", "[", "[1, [", `{"a":`, `{"a":{"b":[{}, `} {
		expectRefused(t, before+s, len(before)+at, errno)
	}
}

// nested returns a text behind an opening part that is repeated.
func nested(opening string, times int, s string) string {
	return strings.Repeat(opening, times) + s
}
