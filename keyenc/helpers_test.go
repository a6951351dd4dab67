package keyenc

import (
	"fmt"
	"math"
	"slices"
	"strings"
	"testing"

	"docstore/api"
	"docstore/value"
)

var (
	missing  = api.Value{}
	least    = api.Value{Kind: api.KindMin}
	null     = api.Value{Kind: api.KindNull}
	greatest = api.Value{Kind: api.KindMax}
)

func num(n int) api.Value               { return api.Value{Kind: api.KindInt, Int: n} }
func boolean(n int) api.Value           { return api.Value{Kind: api.KindBool, Int: n} }
func instant(n int) api.Value           { return api.Value{Kind: api.KindTime, Int: n} }
func text(s string) api.Value           { return api.Value{Kind: api.KindText, Text: s} }
func octets(s string) api.Value         { return api.Value{Kind: api.KindBytes, Text: s} }
func id(s string) api.Value             { return api.Value{Kind: api.KindID, Text: s} }
func list(l ...api.Value) api.Value     { return api.Value{Kind: api.KindList, List: l} }
func doc(fields ...api.Field) api.Value { return api.Value{Kind: api.KindDoc, Doc: fields} }

func field(name string, v api.Value) api.Field { return api.Field{Name: name, Value: v} }

// values and directions make lists.
func values(l ...api.Value) []api.Value { return l }
func directions(l ...bool) []bool       { return l }

// inverted returns a string with each byte inverted.
func inverted(s string) string {
	b := []byte(s)
	for i := range b {
		b[i] = ^b[i]
	}
	return string(b)
}

// identical reports whether two values are valid or missing, and agree in every field of the struct. Compare alone tells this only of valid values.
func identical(a, b api.Value) bool {
	if a.Kind == api.KindNone || b.Kind == api.KindNone {
		return isZero(a) && isZero(b)
	}
	return value.Valid(a) && value.Valid(b) && value.Equal(a, b)
}

func isZero(v api.Value) bool {
	return v.Kind == api.KindNone && v.Int == 0 && v.Text == "" && len(v.List) == 0 && len(v.Doc) == 0
}

// brief shortens a string for a message.
func brief(s string) string {
	if len(s) > 40 {
		return fmt.Sprintf("%x.. (%d bytes)", s[:40], len(s))
	}
	return fmt.Sprintf("%x", s)
}

// show writes values or directions for a message, shortened.
func show(v any) string {
	s := fmt.Sprintf("%+v", v)
	if len(s) > 200 {
		return s[:200] + ".."
	}
	return s
}

// encode returns the key of values that have to have one.
func encode(t *testing.T, l []api.Value, desc []bool) string {
	t.Helper()
	s, errno := Encode(l, desc)
	if errno != api.OK {
		t.Fatalf("Encode of %s, %s: error %d", show(l), show(desc), errno)
	}
	return s
}

// expectNoKey checks that Encode returns an error and nothing else.
func expectNoKey(t *testing.T, l []api.Value, desc []bool, want api.Errno) {
	t.Helper()
	if s, errno := Encode(l, desc); s != "" || errno != want {
		t.Errorf("Encode of %s, %s: %s, error %d; expected error %d", show(l), show(desc), brief(s), errno, want)
	}
}

// expectDecode checks every result of Decode: with an error, there are no values.
func expectDecode(t *testing.T, s string, desc []bool, want []api.Value, wantErrno api.Errno) {
	t.Helper()
	l, errno := Decode(s, desc)
	if !slices.EqualFunc(l, want, identical) || errno != wantErrno {
		t.Errorf("Decode of %s, %s: %s, error %d; expected %s, error %d", brief(s), show(desc), show(l), errno, show(want), wantErrno)
	}
}

// expectKey checks that a string is the key of values, both ways.
func expectKey(t *testing.T, l []api.Value, desc []bool, want string) {
	t.Helper()
	if s := encode(t, l, desc); s != want {
		t.Errorf("Encode of %s, %s: %s; expected %s", show(l), show(desc), brief(s), brief(want))
	}
	expectDecode(t, want, desc, l, api.OK)
}

// expectRefused checks the first error that a string causes where a value of the list begins: alone, descending, behind other values, and with further values to come.
func expectRefused(t *testing.T, s string, errno api.Errno) {
	t.Helper()
	down := inverted(s)
	expectDecode(t, s, directions(false), nil, errno)
	expectDecode(t, down, directions(true), nil, errno)
	expectDecode(t, "\x02"+down, directions(false, true), nil, errno)
	expectDecode(t, "\xfd\xff"+s, directions(true, true, false), nil, errno)
	expectDecode(t, s, directions(false, true), nil, errno)
	expectDecode(t, down, directions(true, false), nil, errno)
}

// encoded is a value with its ascending encoding.
type encoded struct {
	v api.Value
	s string
}

// encodedPool returns values of every kind in ascending order, which differ from each other, with encodings that are written out.
func encodedPool() []encoded {
	return []encoded{
		{missing, "\x00"},
		{least, "\x01"},
		{null, "\x02"},
		{num(math.MinInt), "\x03\x00\x00\x00\x00\x00\x00\x00\x00"},
		{num(math.MinInt + 1), "\x03\x00\x00\x00\x00\x00\x00\x00\x01"},
		{num(-256), "\x03\x7f\xff\xff\xff\xff\xff\xff\x00"},
		{num(-1), "\x03\x7f\xff\xff\xff\xff\xff\xff\xff"},
		{num(0), "\x03\x80\x00\x00\x00\x00\x00\x00\x00"},
		{num(1), "\x03\x80\x00\x00\x00\x00\x00\x00\x01"},
		{num(255), "\x03\x80\x00\x00\x00\x00\x00\x00\xff"},
		{num(256), "\x03\x80\x00\x00\x00\x00\x00\x01\x00"},
		{num(0x0123456789abcdef), "\x03\x81\x23\x45\x67\x89\xab\xcd\xef"},
		{num(math.MaxInt), "\x03\xff\xff\xff\xff\xff\xff\xff\xff"},
		{text(""), "\x04\x00\x00"},
		{text("\x00"), "\x04\x00\xff\x00\x00"},
		{text("\x00\x00"), "\x04\x00\xff\x00\xff\x00\x00"},
		{text("\x00\x01"), "\x04\x00\xff\x01\x00\x00"},
		{text("\x00\u00ff"), "\x04\x00\xff\xc3\xbf\x00\x00"},
		{text("\x01"), "\x04\x01\x00\x00"},
		{text("a"), "\x04a\x00\x00"},
		{text("a\x00"), "\x04a\x00\xff\x00\x00"},
		{text("a\x00b"), "\x04a\x00\xffb\x00\x00"},
		{text("a\x01"), "\x04a\x01\x00\x00"},
		{text("aa"), "\x04aa\x00\x00"},
		{text("\u00e9\U0010ffff"), "\x04\xc3\xa9\xf4\x8f\xbf\xbf\x00\x00"},
		{doc(), "\x05\x00"},
		{doc(field("!", null)), "\x05\x01!\x00\x02\x00"},
		{doc(field("a", null)), "\x05\x01a\x00\x02\x00"},
		{doc(field("a", null), field("b", null)), "\x05\x01a\x00\x02\x01b\x00\x02\x00"},
		{doc(field("a", greatest)), "\x05\x01a\x00\x0b\x00"},
		{doc(field("aa", least)), "\x05\x01aa\x00\x01\x00"},
		{doc(field("b", doc(field("b", doc())))), "\x05\x01b\x00\x05\x01b\x00\x05\x00\x00\x00"},
		{doc(field("b", list(text("a\x00"), doc(field("~", octets("\xff")))))), "\x05\x01b\x00\x06\x01\x04a\x00\xff\x00\x00\x01\x05\x01~\x00\x07\xff\x00\x00\x00\x00\x00"},
		{list(), "\x06\x00"},
		{list(least), "\x06\x01\x01\x00"},
		{list(null), "\x06\x01\x02\x00"},
		{list(null, null), "\x06\x01\x02\x01\x02\x00"},
		{list(num(1)), "\x06\x01\x03\x80\x00\x00\x00\x00\x00\x00\x01\x00"},
		{list(doc(field("n", null)), null), "\x06\x01\x05\x01n\x00\x02\x00\x01\x02\x00"},
		{list(list()), "\x06\x01\x06\x00\x00"},
		{list(list(), list()), "\x06\x01\x06\x00\x01\x06\x00\x00"},
		{list(list(list())), "\x06\x01\x06\x01\x06\x00\x00\x00"},
		{octets(""), "\x07\x00\x00"},
		{octets("\x00"), "\x07\x00\xff\x00\x00"},
		{octets("\x00\xff"), "\x07\x00\xff\xff\x00\x00"},
		{octets("\xff"), "\x07\xff\x00\x00"},
		{octets("\xff\x00"), "\x07\xff\x00\xff\x00\x00"},
		{octets("\xff\xff"), "\x07\xff\xff\x00\x00"},
		{id(strings.Repeat("\x00", 12)), "\x08" + strings.Repeat("\x00\xff", 12) + "\x00\x00"},
		{id("0123456789ab"), "\x080123456789ab\x00\x00"},
		{id(strings.Repeat("\xff", 12)), "\x08" + strings.Repeat("\xff", 12) + "\x00\x00"},
		{boolean(0), "\x09\x80\x00\x00\x00\x00\x00\x00\x00"},
		{boolean(1), "\x09\x80\x00\x00\x00\x00\x00\x00\x01"},
		{instant(0), "\x0a\x80\x00\x00\x00\x00\x00\x00\x00"},
		{instant(128), "\x0a\x80\x00\x00\x00\x00\x00\x00\x80"},
		{instant(math.MaxInt), "\x0a\xff\xff\xff\xff\xff\xff\xff\xff"},
		{greatest, "\x0b"},
	}
}
