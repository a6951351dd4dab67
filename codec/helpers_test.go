package codec

import (
	"fmt"
	"math"
	"strings"
	"testing"

	"docstore/api"
	"docstore/value"
)

var (
	least    = api.Value{Kind: api.KindMin}
	null     = api.Value{Kind: api.KindNull}
	greatest = api.Value{Kind: api.KindMax}
)

func num(n int) api.Value               { return api.Value{Kind: api.KindInt, Int: n} }
func boolean(n int) api.Value           { return api.Value{Kind: api.KindBool, Int: n} }
func instant(n int) api.Value           { return api.Value{Kind: api.KindTime, Int: n} }
func text(s string) api.Value           { return api.Value{Kind: api.KindText, Text: s} }
func octets(s string) api.Value         { return api.Value{Kind: api.KindBytes, Text: s} }
func id(s string) api.Value             { return api.Value{Kind: api.KindID, Text: s} }
func list(l ...api.Value) api.Value     { return api.Value{Kind: api.KindList, List: l} }
func doc(fields ...api.Field) api.Value { return api.Value{Kind: api.KindDoc, Doc: fields} }

func field(name string, v api.Value) api.Field { return api.Field{Name: name, Value: v} }

func isZero(v api.Value) bool {
	return v.Kind == api.KindNone && v.Int == 0 && v.Text == "" && len(v.List) == 0 && len(v.Doc) == 0
}

// identical reports whether two values agree in every field of the struct. Compare alone tells this only of valid values.
func identical(a, b api.Value) bool {
	return isZero(a) && isZero(b) || value.Valid(a) && value.Valid(b) && value.Equal(a, b)
}

// brief shortens a string for a message.
func brief(s string) string {
	if len(s) > 40 {
		return fmt.Sprintf("%x.. (%d bytes)", s[:40], len(s))
	}
	return fmt.Sprintf("%x", s)
}

// show writes a value for a message, shortened.
func show(v api.Value) string {
	s := fmt.Sprintf("%#v", v)
	if len(s) > 200 {
		return s[:200] + ".."
	}
	return s
}

// encode returns the encoding of a value that has to be valid.
func encode(t *testing.T, v api.Value) string {
	t.Helper()
	s, errno := Encode(v)
	if errno != api.OK {
		t.Fatalf("Encode of %s: error %d", show(v), errno)
	}
	return s
}

// expectRead checks every result of Read: with an error, the others are zero.
func expectRead(t *testing.T, s string, at int, want api.Value, wantEnd int, wantErrno api.Errno) {
	t.Helper()
	v, end, errno := Read(s, at)
	if !identical(v, want) || end != wantEnd || errno != wantErrno {
		t.Errorf("Read of %s at %d: %s, %d, error %d; expected %s, %d, error %d", brief(s), at, show(v), end, errno, show(want), wantEnd, wantErrno)
	}
}

// expectDecode checks every result of Decode.
func expectDecode(t *testing.T, s string, want api.Value, wantErrno api.Errno) {
	t.Helper()
	v, errno := Decode(s)
	if !identical(v, want) || errno != wantErrno {
		t.Errorf("Decode of %s: %s, error %d; expected %s, error %d", brief(s), show(v), errno, show(want), wantErrno)
	}
}

// expectRefused checks that Read at two offsets and Decode return an error and nothing else.
func expectRefused(t *testing.T, s string, errno api.Errno) {
	t.Helper()
	expectRead(t, s, 0, api.Value{}, 0, errno)
	expectRead(t, "\x03\x02"+s, 2, api.Value{}, 0, errno)
	expectDecode(t, s, api.Value{}, errno)
}

// expectAccepted checks that Read at two offsets and Decode return a value, and that Encode returns the same string for it.
func expectAccepted(t *testing.T, s string, want api.Value) {
	t.Helper()
	expectRead(t, s, 0, want, len(s), api.OK)
	expectRead(t, "\x80"+s+"\x80", 1, want, len(s)+1, api.OK)
	expectDecode(t, s, want, api.OK)
	if got, errno := Encode(want); got != s || errno != api.OK {
		t.Errorf("Encode of %s: %s, error %d; expected %s", show(want), brief(got), errno, brief(s))
	}
}

// encoded is a value with its encoding.
type encoded struct {
	v api.Value
	s string
}

// encodedPool returns values of every kind, which differ from each other, with encodings that are written out.
func encodedPool() []encoded {
	nested := doc(
		field("_id", id("abcdefghijkl")),
		field("l", list(doc(field("n", num(-2)), field("x", least)), list(greatest, octets("\x00\xff")))),
		field("t", instant(128)),
	)
	return []encoded{
		{least, "\x01"},
		{null, "\x02"},
		{greatest, "\x0b"},
		{num(0), "\x03\x00"},
		{num(-1), "\x03\x01"},
		{num(64), "\x03\x80\x01"},
		{num(math.MaxInt), "\x03\xfe\xff\xff\xff\xff\xff\xff\xff\xff\x01"},
		{num(math.MinInt), "\x03\xff\xff\xff\xff\xff\xff\xff\xff\xff\x01"},
		{boolean(0), "\x09\x00"},
		{boolean(1), "\x09\x01"},
		{instant(0), "\x0a\x00"},
		{instant(1), "\x0a\x02"},
		{instant(math.MaxInt), "\x0a\xfe\xff\xff\xff\xff\xff\xff\xff\xff\x01"},
		{text(""), "\x04\x00"},
		{text("a"), "\x04\x02a"},
		{text("\x00"), "\x04\x02\x00"},
		{text("\u00e9\U0010ffff"), "\x04\x0c\xc3\xa9\xf4\x8f\xbf\xbf"},
		{text(strings.Repeat("b", 64)), "\x04\x80\x01" + strings.Repeat("b", 64)},
		{octets(""), "\x07\x00"},
		{octets("\xff\x80"), "\x07\x04\xff\x80"},
		{id("0123456789ab"), "\x080123456789ab"},
		{id(strings.Repeat("\xff", 12)), "\x08" + strings.Repeat("\xff", 12)},
		{list(), "\x06\x00"},
		{list(num(1)), "\x06\x02\x03\x02"},
		{list(list(), doc(), null), "\x06\x06\x06\x00\x05\x00\x02"},
		{doc(), "\x05\x00"},
		{doc(field("a", num(1))), "\x05\x02\x02a\x03\x02"},
		{doc(field("b", null), field("a", null)), "\x05\x04\x02b\x02\x02a\x02"},
		{doc(field("ab", doc(field("a", text("c"))))), "\x05\x02\x04ab\x05\x02\x02a\x04\x02c"},
		{nested, "\x05\x06\x06_id\x08abcdefghijkl\x02l\x06\x04\x05\x04\x02n\x03\x03\x02x\x01\x06\x04\x0b\x07\x04\x00\xff\x02t\x0a\x80\x02"},
	}
}
