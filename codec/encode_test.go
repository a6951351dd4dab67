package codec

import (
	"fmt"
	"math"
	"strings"
	"testing"

	"docstore/api"
	"docstore/sample"
)

// P2.3, P2.4, P2.5: the encodings of all kinds of values.
func TestEncodings(t *testing.T) {
	for _, c := range encodedPool() {
		expectAccepted(t, c.s, c.v)
		if n, errno := Length(c.v); n != len(c.s) || errno != api.OK {
			t.Errorf("Length of %s: %d, error %d; expected %d", show(c.v), n, errno, len(c.s))
		}
	}
}

// P2.3: a nil list and an empty one have the same encoding.
func TestEncodeEmptyLists(t *testing.T) {
	for _, v := range []api.Value{
		{Kind: api.KindList, List: []api.Value{}, Doc: []api.Field{}},
		{Kind: api.KindDoc, List: []api.Value{}, Doc: []api.Field{}},
		{Kind: api.KindNull, List: []api.Value{}, Doc: []api.Field{}},
	} {
		if got, want := encode(t, v), encode(t, api.Value{Kind: v.Kind}); got != want {
			t.Errorf("Encode of %s: %x; expected %x", show(v), got, want)
		}
	}
}

// invalidPool returns values that are not valid, for every reason.
func invalidPool() []api.Value {
	return []api.Value{
		{}, {Kind: -1}, {Kind: 12}, {Kind: math.MaxInt}, {Kind: math.MinInt}, {Kind: 1<<8 + api.KindNull},
		{Kind: api.KindNull, Int: 1}, {Kind: api.KindMin, Text: "a"}, {Kind: api.KindMax, List: []api.Value{null}}, {Kind: api.KindInt, Doc: []api.Field{field("a", null)}},
		{Kind: api.KindList, Int: 1}, {Kind: api.KindDoc, Text: "a"}, {Kind: api.KindText, Int: 1},
		boolean(2), boolean(-1), boolean(256), instant(-1), instant(math.MinInt),
		text("\xff"), text("\xed\xa0\x80"), text(strings.Repeat("a", api.MaxText+1)), octets(strings.Repeat("a", api.MaxText+1)),
		id(""), id("0123456789a"), id("0123456789abc"),
		doc(field("", null)), doc(field("$a", null)), doc(field("a.b", null)), doc(field(" ", null)), doc(field("\x7f", null)),
		doc(field(strings.Repeat("a", api.MaxName+1), null)), doc(field("a", num(1)), field("a", num(2))),
		sample.NestedLists(api.MaxDepth+1, null), sample.NestedDocs(api.MaxDepth+1, doc()), sample.Nulls(api.MaxNodes), sample.Numbered(api.MaxNodes),
		sample.NestedLists(1<<16, null), sample.Nulls(1 << 16),
	}
}

// P2.3: Encode and Length refuse what is not valid.
func TestEncodeInvalid(t *testing.T) {
	for i, v := range invalidPool() {
		for name, v := range map[string]api.Value{"itself": v, "in a list": list(null, v), "in a document": doc(field("b", null), field("c", v))} {
			if s, errno := Encode(v); s != "" || errno != api.ErrKind {
				t.Errorf("Encode of value %d %s: %s, error %d", i, name, brief(s), errno)
			}
			if n, errno := Length(v); n != 0 || errno != api.ErrKind {
				t.Errorf("Length of value %d %s: %d, error %d", i, name, n, errno)
			}
		}
	}
}

// P2.3, P2.4: the greatest numbers of levels, values and bytes of a part.
func TestEncodeLimits(t *testing.T) {
	name := strings.Repeat("n", api.MaxName)
	for _, c := range []encoded{
		{sample.NestedLists(api.MaxDepth, null), strings.Repeat("\x06\x02", api.MaxDepth-1) + "\x02"},
		{sample.NestedLists(api.MaxDepth, list()), strings.Repeat("\x06\x02", api.MaxDepth-1) + "\x06\x00"},
		{sample.NestedDocs(api.MaxDepth, doc()), strings.Repeat("\x05\x02\x02a", api.MaxDepth-1) + "\x05\x00"},
		{sample.Nulls(api.MaxNodes - 1), "\x06\xfe\x0f" + strings.Repeat("\x02", api.MaxNodes-1)},
		{list(sample.Nulls(api.MaxNodes-3), null), "\x06\x04\x06\xfa\x0f" + strings.Repeat("\x02", api.MaxNodes-2)},
		{text(strings.Repeat("a", api.MaxText)), "\x04\x80\x40" + strings.Repeat("a", api.MaxText)},
		{octets(strings.Repeat("\xff", api.MaxText)), "\x07\x80\x40" + strings.Repeat("\xff", api.MaxText)},
		{doc(field(name, null)), "\x05\x02\x40" + name + "\x02"},
		{doc(field("!~", null)), "\x05\x02\x04!~\x02"},
		{doc(field("a$", null)), "\x05\x02\x04a$\x02"},
	} {
		expectAccepted(t, c.s, c.v)
	}
	v := sample.Numbered(api.MaxNodes - 1)
	expectAccepted(t, encode(t, v), v)
}

// P2.3: the number of bytes of an encoding is not limited by MaxDoc.
func TestEncodeLong(t *testing.T) {
	fields := make([]api.Field, api.MaxNodes-1)
	for i := range fields {
		fields[i] = field(fmt.Sprintf("%0*d", api.MaxName, i), octets(strings.Repeat("\x80", api.MaxText)))
	}
	v := doc(fields...)
	want := 3 + (api.MaxNodes-1)*(1+api.MaxName+3+api.MaxText)
	s := encode(t, v)
	if n, errno := Length(v); len(s) != want || n != want || errno != api.OK {
		t.Errorf("%d bytes, Length %d, error %d; expected %d", len(s), n, errno, want)
	}
	expectDecode(t, s, v, api.OK)
}
