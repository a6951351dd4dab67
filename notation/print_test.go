package notation

import (
	"fmt"
	"math"
	"strings"
	"testing"

	"docstore/api"
	"docstore/sample"
)

// illFormed returns values that are not well-formed, for every reason.
func illFormed() []api.Value {
	return []api.Value{
		{}, {Kind: -1}, {Kind: 12}, {Kind: math.MaxInt}, {Kind: math.MinInt},
		{Kind: api.KindNull, Int: 1}, {Kind: api.KindMin, Text: "a"}, {Kind: api.KindMax, List: []api.Value{null}}, {Kind: api.KindInt, Doc: []api.Field{field("a", null)}},
		{Kind: api.KindInt, Text: "a"}, {Kind: api.KindText, Int: 1}, {Kind: api.KindBytes, List: []api.Value{null}}, {Kind: api.KindID, Text: "0123456789ab", Int: 1},
		{Kind: api.KindList, Int: 1}, {Kind: api.KindList, Doc: []api.Field{field("a", null)}}, {Kind: api.KindList, Text: "a"},
		{Kind: api.KindDoc, Text: "a"}, {Kind: api.KindDoc, Int: 1}, {Kind: api.KindDoc, List: []api.Value{null}},
		boolean(2), boolean(-1), instant(-1), instant(math.MinInt),
		text("\xff"), text("\xed\xa0\x80"), text(strings.Repeat("a", api.MaxText+1)), octets(strings.Repeat("a", api.MaxText+1)),
		id(""), id("0123456789a"), id("0123456789abc"),
		only("", null), only("\x1f", null), only("a\x7f", null), only("\u00e9", null), only("a\xff", null), only("\x00", null),
		only(strings.Repeat("a", 128+1), null), doc(field("a", num(1)), field("a", num(2))), doc(field("$min", num(1)), field("b", null), field("$min", num(1))),
		sample.NestedLists(api.MaxDepth+1, null), sample.NestedDocs(api.MaxDepth+1, doc()), sample.Nulls(api.MaxNodes), sample.Numbered(api.MaxNodes),
		sample.NestedLists(1<<16, null), sample.NestedDocs(1<<16, null), sample.Nulls(1 << 20),
	}
}

// P5.2: Print refuses what is not well-formed, at every place.
func TestPrintIllFormed(t *testing.T) {
	for _, v := range illFormed() {
		expectUnprintable(t, v, api.ErrKind)
		expectUnprintable(t, list(null, v), api.ErrKind)
		expectUnprintable(t, doc(field("b", null), field("c", v)), api.ErrKind)
		expectUnprintable(t, list(list(), only("a", list(v))), api.ErrKind)
	}
	expectParse(t, "[]", api.Value{Kind: api.KindList, List: []api.Value{}, Doc: []api.Field{}})
	expectPrint(t, api.Value{Kind: api.KindNull, List: []api.Value{}, Doc: []api.Field{}}, "null")
}

// P5.2: the names of documents are any 1 to 128 bytes from 20 to 7e, those of operators among them.
func TestPrintNames(t *testing.T) {
	for b := range 0x100 {
		for _, name := range []string{string([]byte{byte(b)}), string([]byte{'a', byte(b)}), string([]byte{byte(b), 'a'})} {
			if b >= 0x20 && b <= 0x7e {
				expectPrint(t, only(name, null), "{"+Quote(name)+":null}")
				expectPrint(t, list(only("a", only(name, null))), `[{"a":{`+Quote(name)+":null}}]")
			} else {
				expectUnprintable(t, only(name, null), api.ErrKind)
			}
		}
	}
	for _, n := range []int{1, api.MaxName, api.MaxName + 1, 128} {
		for _, of := range []string{"a", "$", ".", " ", `"`} {
			name := strings.Repeat(of, n)
			expectPrint(t, only(name, num(7)), "{"+Quote(name)+":7}")
			expectUnprintable(t, only(name+strings.Repeat(of, 128-n+1), num(7)), api.ErrKind)
		}
	}
	expectPrint(t, doc(field("a", num(1)), field("A", only("a", num(2)))), `{"a":1,"A":{"a":2}}`)
}

// P5.2: the limits of levels and values, of texts and bytes.
func TestPrintLimits(t *testing.T) {
	deep := api.MaxDepth - 1
	expectPrint(t, sample.NestedLists(api.MaxDepth, null), nested("[", deep, "null")+nested("]", deep, ""))
	expectPrint(t, sample.NestedDocs(api.MaxDepth, least), nested(`{"a":`, deep, `{"$min":1}`)+nested("}", deep, ""))
	expectPrint(t, sample.Nulls(api.MaxNodes-1), "["+nested("null,", api.MaxNodes-2, "null]"))
	most := strings.Repeat("a", api.MaxText)
	expectPrint(t, list(text(most), text(strings.Repeat("\x00", api.MaxText))), `["`+most+`","`+strings.Repeat(`\u0000`, api.MaxText)+`"]`)
	half := strings.Repeat("\xcd", api.MaxText/2)
	expectPrint(t, octets(half), `{"$bytes":"`+strings.Repeat("cd", api.MaxText/2)+`"}`)
	for _, more := range []string{half + "a", half + half} {
		expectUnprintable(t, octets(more), api.ErrLimit)
		expectUnprintable(t, list(num(1), octets(more)), api.ErrLimit)
		expectUnprintable(t, only("$bytes", octets(more)), api.ErrLimit)
		expectPrint(t, text(strings.Repeat("a", len(more))), `"`+strings.Repeat("a", len(more))+`"`)
	}
}

// readAsSpecial returns documents that would be read as special values.
func readAsSpecial() []api.Value {
	return []api.Value{
		only("$id", text("0123456789abcdef01234567")),
		only("$bytes", text("")), only("$bytes", text("0f")), only("$bytes", text(strings.Repeat("a", api.MaxText))),
		only("$time", num(0)), only("$time", num(1)), only("$time", num(math.MaxInt)),
		only("$min", num(1)), only("$max", num(1)),
	}
}

// nearlySpecial returns documents that resemble special values and are none, with their texts.
func nearlySpecial() []written {
	pool := []written{
		{only("$id", text("0123456789abcdef0123456")), `{"$id":"0123456789abcdef0123456"}`},
		{only("$id", text("0123456789abcdef012345678")), `{"$id":"0123456789abcdef012345678"}`},
		{only("$id", text("0123456789abcdef0123456789")), `{"$id":"0123456789abcdef0123456789"}`},
		{only("$id", text("0123456789abcdef0123456A")), `{"$id":"0123456789abcdef0123456A"}`},
		{only("$id", text("0123456789abcdef0123456g")), `{"$id":"0123456789abcdef0123456g"}`},
		{only("$id", text("")), `{"$id":""}`},
		{only("$id", num(1)), `{"$id":1}`},
		{only("$bytes", text("0")), `{"$bytes":"0"}`},
		{only("$bytes", text("0FF0")), `{"$bytes":"0FF0"}`},
		{only("$bytes", text("0g")), `{"$bytes":"0g"}`},
		{only("$bytes", text("g0")), `{"$bytes":"g0"}`},
		{only("$bytes", text("0 ")), `{"$bytes":"0 "}`},
		{only("$bytes", text("\x00\x00")), `{"$bytes":"\u0000\u0000"}`},
		{only("$bytes", num(10)), `{"$bytes":10}`},
		{only("$time", num(-1)), `{"$time":-1}`},
		{only("$time", num(math.MinInt)), `{"$time":-9223372036854775808}`},
		{only("$time", text("0")), `{"$time":"0"}`},
		{only("$Time", num(0)), `{"$Time":0}`},
		{only("time", num(0)), `{"time":0}`},
		{only(" $time", num(0)), `{" $time":0}`},
		{only("$time ", num(0)), `{"$time ":0}`},
	}
	for _, name := range []string{"$min", "$max"} {
		pool = append(pool,
			written{only(name, num(0)), fmt.Sprintf(`{"%s":0}`, name)},
			written{only(name, num(2)), fmt.Sprintf(`{"%s":2}`, name)},
			written{only(name, num(-1)), fmt.Sprintf(`{"%s":-1}`, name)},
			written{only(name, text("1")), fmt.Sprintf(`{"%s":"1"}`, name)},
		)
	}
	for _, name := range []string{"$id", "$bytes", "$time", "$min", "$max"} {
		pool = append(pool, nearlyOfOthers(name)...)
	}
	return pool
}

// nearlyOfOthers returns documents with the name of a special value that have values of other kinds.
func nearlyOfOthers(name string) []written {
	var pool []written
	for _, inner := range []written{
		{null, `null`}, {boolean(1), `true`}, {list(num(1)), `[1]`}, {doc(), `{}`}, {only("a", num(1)), `{"a":1}`},
		{least, `{"$min":1}`}, {greatest, `{"$max":1}`}, {instant(1), `{"$time":1}`}, {octets("\x01"), `{"$bytes":"01"}`},
		{id("0123456789ab"), `{"$id":"303132333435363738396162"}`},
	} {
		pool = append(pool, written{only(name, inner.v), fmt.Sprintf(`{"%s":%s}`, name, inner.s)})
	}
	return pool
}

// P5.2: a document that would be read as a special value is refused, at every place.
func TestPrintSpecialDocuments(t *testing.T) {
	for _, v := range readAsSpecial() {
		expectUnprintable(t, v, api.ErrForm)
		expectUnprintable(t, list(num(1), v), api.ErrForm)
		expectUnprintable(t, doc(field("a", null), field("b", v)), api.ErrForm)
		expectUnprintable(t, only("$min", v), api.ErrForm)
	}
}

// P5.2, P5.3: an object that is nearly a special value is a document.
func TestNearlySpecial(t *testing.T) {
	for _, c := range nearlySpecial() {
		expectPrint(t, c.v, c.s)
		expectParse(t, c.s, c.v)
		expectParse(t, "["+c.s+","+c.s+"]", list(c.v, c.v))
	}
	for _, v := range readAsSpecial() {
		s, errno := Print(doc(v.Doc[0], field("b", num(1))))
		if errno != api.OK {
			t.Errorf("Print of %s with another field: error %d", show(v), errno)
		}
		expectParse(t, s, doc(v.Doc[0], field("b", num(1))))
		v = doc(field("b", num(1)), v.Doc[0])
		s, _ = Print(v)
		expectParse(t, s, v)
	}
}

// P5.2: ErrKind comes before all other errors, and these value by value in preorder.
func TestPrintErrorOrder(t *testing.T) {
	long := octets(strings.Repeat("a", api.MaxText/2+1))
	unreadable := only("$max", num(1))
	for _, c := range []struct {
		v    api.Value
		want api.Errno
	}{
		{list(unreadable, long), api.ErrForm},
		{list(long, unreadable), api.ErrLimit},
		{list(unreadable, long, api.Value{}), api.ErrKind},
		{list(long, unreadable, only("", null)), api.ErrKind},
		{doc(field("a", unreadable), field("b", boolean(2))), api.ErrKind},
		{doc(field("a", long), field("a", null)), api.ErrKind},
		{doc(field("a", list(null, only("x", long))), field("b", unreadable)), api.ErrLimit},
		{doc(field("a", list(null, only("x", unreadable))), field("b", long)), api.ErrForm},
		{list(list(list(long)), unreadable), api.ErrLimit},
		{list(list(list(unreadable)), long), api.ErrForm},
		{list(long, sample.NestedDocs(api.MaxDepth, null)), api.ErrKind},
		{list(unreadable, sample.Nulls(api.MaxNodes-4)), api.ErrForm},
		{list(unreadable, sample.Nulls(api.MaxNodes-3)), api.ErrKind},
	} {
		expectUnprintable(t, c.v, c.want)
	}
}
