package keyenc

import (
	"math"
	"strings"
	"testing"

	"docstore/api"
	"docstore/sample"
)

// P3.1, P3.2: the encodings of all kinds of values, in both directions.
func TestEncodings(t *testing.T) {
	for _, c := range encodedPool() {
		expectKey(t, values(c.v), directions(false), c.s)
		expectKey(t, values(c.v), directions(true), inverted(c.s))
	}
}

// P3.1, P3.2: a key consists of the encodings one after the other, each in its direction.
func TestKeys(t *testing.T) {
	expectKey(t, values(num(5), text("a")), directions(false, true), "\x03\x80\x00\x00\x00\x00\x00\x00\x05\xfb\x9e\xff\xff")
	for _, a := range encodedPool() {
		for _, b := range encodedPool() {
			expectKey(t, values(a.v, b.v), directions(false, false), a.s+b.s)
			expectKey(t, values(a.v, b.v), directions(false, true), a.s+inverted(b.s))
			expectKey(t, values(a.v, null, b.v), directions(true, false, true), inverted(a.s)+"\x02"+inverted(b.s))
		}
	}
	expectKey(t, values(missing, missing, greatest), directions(true, false, true), "\xff\x00\xf4")
}

// P3.1, P3.2: the key of no values.
func TestEmptyKey(t *testing.T) {
	expectKey(t, nil, nil, "")
	expectKey(t, values(), directions(), "")
	expectKey(t, nil, directions(), "")
	expectKey(t, values(), nil, "")
}

// P3.1: a nil list and an empty one have the same encoding.
func TestEncodeEmptyLists(t *testing.T) {
	for _, kind := range []int{api.KindNone, api.KindNull, api.KindList, api.KindDoc} {
		empty := api.Value{Kind: kind, List: []api.Value{}, Doc: []api.Field{}}
		expectKey(t, values(empty), directions(false), encode(t, values(api.Value{Kind: kind}), directions(false)))
	}
}

// P3.1: lists and directions of different lengths are the first error.
func TestEncodeLengths(t *testing.T) {
	expectNoKey(t, nil, directions(false), api.ErrArg)
	expectNoKey(t, values(null), nil, api.ErrArg)
	expectNoKey(t, values(null), directions(), api.ErrArg)
	expectNoKey(t, values(null), directions(false, true), api.ErrArg)
	expectNoKey(t, values(null, null), directions(true), api.ErrArg)
	expectNoKey(t, values(boolean(2)), nil, api.ErrArg)
	expectNoKey(t, values(null, boolean(2)), directions(true), api.ErrArg)
}

// invalidPool returns values that are neither valid nor missing, for every reason.
func invalidPool() []api.Value {
	return []api.Value{
		{Kind: -1}, {Kind: 12}, {Kind: math.MaxInt}, {Kind: math.MinInt}, {Kind: 1<<8 + api.KindNull}, {Kind: 1 << 8},
		{Int: 1}, {Text: "a"}, {List: []api.Value{null}}, {Doc: []api.Field{field("a", null)}}, {List: []api.Value{{}}}, {Doc: []api.Field{{}}},
		{Kind: api.KindNull, Int: 1}, {Kind: api.KindMin, Text: "a"}, {Kind: api.KindMax, List: []api.Value{null}}, {Kind: api.KindInt, Doc: []api.Field{field("a", null)}},
		{Kind: api.KindList, Int: 1}, {Kind: api.KindDoc, Text: "a"}, {Kind: api.KindText, Int: 1},
		boolean(2), boolean(-1), boolean(256), instant(-1), instant(math.MinInt),
		text("\xff"), text("\xed\xa0\x80"), text(strings.Repeat("a", api.MaxText+1)), octets(strings.Repeat("a", api.MaxText+1)),
		id(""), id("0123456789a"), id("0123456789abc"),
		doc(field("", null)), doc(field("$a", null)), doc(field("a.b", null)), doc(field(" ", null)), doc(field("\x7f", null)), doc(field("a\x00", null)),
		doc(field(strings.Repeat("a", api.MaxName+1), null)), doc(field("a", num(1)), field("a", num(2))),
		list(missing), list(null, missing), doc(field("a", missing)), list(doc(field("a", list(missing)))),
		sample.NestedLists(api.MaxDepth+1, null), sample.NestedDocs(api.MaxDepth+1, doc()), sample.Nulls(api.MaxNodes), sample.Numbered(api.MaxNodes),
		sample.NestedLists(1<<16, null), sample.Nulls(1 << 16),
	}
}

// P3.1: Encode refuses what is neither valid nor missing, at every place.
func TestEncodeInvalid(t *testing.T) {
	for _, v := range invalidPool() {
		expectNoKey(t, values(v), directions(false), api.ErrKind)
		expectNoKey(t, values(v), directions(true), api.ErrKind)
		expectNoKey(t, values(v, null), directions(false, false), api.ErrKind)
		expectNoKey(t, values(missing, null, v), directions(true, false, true), api.ErrKind)
		expectNoKey(t, values(list(null, v)), directions(false), api.ErrKind)
		expectNoKey(t, values(doc(field("b", null), field("c", v))), directions(true), api.ErrKind)
	}
}

// P3.1, P3.2: the greatest numbers of levels, values and bytes of a part, which count for each value of the list.
func TestEncodeLimits(t *testing.T) {
	name := strings.Repeat("n", api.MaxName)
	for _, c := range []encoded{
		{sample.NestedLists(api.MaxDepth, null), strings.Repeat("\x06\x01", api.MaxDepth-1) + "\x02" + strings.Repeat("\x00", api.MaxDepth-1)},
		{sample.NestedLists(api.MaxDepth, doc()), strings.Repeat("\x06\x01", api.MaxDepth-1) + "\x05\x00" + strings.Repeat("\x00", api.MaxDepth-1)},
		{sample.NestedDocs(api.MaxDepth, list()), strings.Repeat("\x05\x01a\x00", api.MaxDepth-1) + "\x06\x00" + strings.Repeat("\x00", api.MaxDepth-1)},
		{sample.Nulls(api.MaxNodes - 1), "\x06" + strings.Repeat("\x01\x02", api.MaxNodes-1) + "\x00"},
		{list(sample.Nulls(api.MaxNodes-3), null), "\x06\x01\x06" + strings.Repeat("\x01\x02", api.MaxNodes-3) + "\x00\x01\x02\x00"},
		{text(strings.Repeat("a", api.MaxText)), "\x04" + strings.Repeat("a", api.MaxText) + "\x00\x00"},
		{text(strings.Repeat("\x00", api.MaxText)), "\x04" + strings.Repeat("\x00\xff", api.MaxText) + "\x00\x00"},
		{octets(strings.Repeat("\xff", api.MaxText)), "\x07" + strings.Repeat("\xff", api.MaxText) + "\x00\x00"},
		{doc(field(name, null)), "\x05\x01" + name + "\x00\x02\x00"},
		{doc(field("!~$", null)), "\x05\x01!~$\x00\x02\x00"},
	} {
		expectKey(t, values(c.v), directions(false), c.s)
		expectKey(t, values(c.v), directions(true), inverted(c.s))
		expectKey(t, values(c.v, null, c.v), directions(false, true, false), c.s+"\xfd"+c.s)
	}
	v := sample.Numbered(api.MaxNodes - 1)
	expectKey(t, values(v, v), directions(false, true), encode(t, values(v), directions(false))+encode(t, values(v), directions(true)))
}

// P3.1, P3.2: the number of values of a list is not limited.
func TestEncodeMany(t *testing.T) {
	const n = 1 << 12
	l, desc := make([]api.Value, n), make([]bool, n)
	for i := range n {
		l[i], desc[i] = null, i%2 == 1
	}
	expectKey(t, l, desc, strings.Repeat("\x02\xfd", n/2))
}
