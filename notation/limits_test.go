package notation

import (
	"strings"
	"testing"

	"docstore/api"
	"docstore/sample"
)

// P5.3: names are checked when they have been read, at their quotation mark.
func TestParseNameErrors(t *testing.T) {
	most := strings.Repeat("n", 128)
	for _, c := range []struct {
		name  string
		errno api.Errno
	}{
		{``, api.ErrForm}, {`\u0000`, api.ErrForm}, {`\n`, api.ErrForm}, {`a\u001f`, api.ErrForm}, {`\u007f`, api.ErrForm}, {"\x7f", api.ErrForm}, {"a\x80", api.ErrForm}, {"\xff", api.ErrForm}, {"\u00e9", api.ErrForm}, {`\u00e9`, api.ErrForm},
		{most + "n", api.ErrLimit}, {most + most, api.ErrLimit}, {most + "\xff", api.ErrLimit}, {most + `\n`, api.ErrLimit}, {most[1:] + "\u00e9", api.ErrLimit}, {most[1:] + `\u00e9`, api.ErrLimit}, {most[1:] + "\xff", api.ErrForm}, {strings.Repeat(`\u00e9`, 65), api.ErrLimit}, {strings.Repeat(`\u00e9`, 64), api.ErrForm},
		{strings.Repeat(" ", 1<<20), api.ErrLimit},
	} {
		for _, before := range []string{"{", "{ \n", `{"a":1, `, `[{"b":{`} {
			for _, behind := range []string{"", ":1}", "x"} {
				expectRefused(t, before+`"`+c.name+`"`+behind, len(before), c.errno)
			}
			expectRefused(t, before+`"`+c.name, len(before)+1+len(c.name), api.ErrForm)
			expectRefused(t, before+`"`+c.name+"\x00", len(before)+1+len(c.name), api.ErrForm)
		}
	}
	for _, name := range []string{most, strings.Repeat(`\u006e`, 128), strings.Repeat(`\u006e`, 64) + most[64:]} {
		expectParse(t, `{"`+name+`":1}`, only(most, num(1)))
	}
	expectParse(t, `{"`+strings.Repeat(`\"`, 128)+`":1}`, only(strings.Repeat(`"`, 128), num(1)))
}

// P5.3: a name that an earlier field of the same object has is refused before the value behind it.
func TestParseEqualNames(t *testing.T) {
	for _, c := range []struct {
		s  string
		at int
	}{
		{`{"a":1,"a":2}`, 7}, {`{"a":1,"a"`, 7}, {`{"a":1,"a"x`, 7}, {`{"a":1,"\u0061"`, 7}, {`{"\u0061":1, "a"`, 13}, {`{"a":1,"b":2,"a":3`, 13}, {`{"a":1,"b":2,"b":3`, 13}, {`{"a":{"a":1},"a":`, 13}, {`{"a":{"b":1,"b":`, 12}, {`{"$min":1,"$min":1}`, 10}, {`{"\/":1,"/"`, 8},
	} {
		expectRefused(t, c.s, c.at, api.ErrForm)
	}
	expectRefused(t, `{"a":1,"a`, 9, api.ErrForm)
	many := sample.Numbered(500)
	s, _ := Print(many)
	for _, name := range []string{"f0", "f250", "f499"} {
		expectRefused(t, s[:len(s)-1]+`,"`+name+`":0}`, len(s), api.ErrForm)
	}
	expectParse(t, `[{"a":{"a":1}},{"a":{"A":1}}]`, list(only("a", only("a", num(1))), only("a", only("A", num(1)))))
}

// P5.3: string values are checked when they have been read, at their quotation mark.
func TestParseTextErrors(t *testing.T) {
	most := strings.Repeat("n", api.MaxText)
	for _, c := range []struct {
		content string
		errno   api.Errno
	}{
		{"\xff", api.ErrForm}, {"a\x80b", api.ErrForm}, {"\xc3", api.ErrForm}, {"\xc0\x80", api.ErrForm}, {"\xe0\x80\x80", api.ErrForm}, {"\xed\xa0\x80", api.ErrForm}, {"\xf4\x90\x80\x80", api.ErrForm}, {"\xf8\x88\x80\x80\x80", api.ErrForm}, {"\xc3\\n", api.ErrForm}, {"\xc3\\u00a9", api.ErrForm},
		{most + "n", api.ErrLimit}, {most + most, api.ErrLimit}, {most + "\xff", api.ErrLimit}, {most[1:] + "\xff", api.ErrForm}, {most[1:] + "\u00e9", api.ErrLimit}, {most[1:] + `\u0080`, api.ErrLimit}, {strings.Repeat(`\u20ac`, 1366), api.ErrLimit},
		{strings.Repeat("0", 1<<20), api.ErrLimit},
	} {
		for _, before := range []string{"", " ", "[", "[1, ", `{"a":`, `{"a":{"b": `, `{"$id":`, `{"$bytes": `, `{"$time":1,"$bytes":`} {
			for _, behind := range []string{"", " ", "]", "}", "x"} {
				expectRefused(t, before+`"`+c.content+`"`+behind, len(before), c.errno)
			}
			expectRefused(t, before+`"`+c.content, len(before)+1+len(c.content), api.ErrForm)
			expectRefused(t, before+`"`+c.content+"\n\"", len(before)+1+len(c.content), api.ErrForm)
		}
	}
	for _, content := range []string{most, strings.Repeat("\u00e9", api.MaxText/2), strings.Repeat("\x7f", api.MaxText)} {
		expectParse(t, `"`+content+`"`, text(content))
	}
	expectParse(t, `"`+strings.Repeat(`\u006E`, api.MaxText)+`"`, text(most))
	expectParse(t, `"`+strings.Repeat(`\u20ac`, 1365)+`n"`, text(strings.Repeat("\u20ac", 1365)+"n"))
}

// P5.3: integers out of range are refused when they have been read, at their first byte.
func TestParseIntegerErrors(t *testing.T) {
	for _, n := range []string{
		"9223372036854775808", "-9223372036854775809", "10000000000000000000", "-10000000000000000000", "18446744073709551615", "18446744073709551616", "18446744073709551617", "-18446744073709551616", "99999999999999999999", "1" + strings.Repeat("0", 100000), "-" + strings.Repeat("9", 100000),
	} {
		for _, before := range []string{"", "\t", "[", "[0, ", `{"a":`, `{"$time":`, `{"$min": `, `[{"b":0,"c":`} {
			for _, behind := range []string{"", " ", "]", "}", ",", "x", ".", "\x00", `"`} {
				expectRefused(t, before+n+behind, len(before), api.ErrLimit)
			}
		}
	}
	expectRefused(t, "[9223372036854775807", 20, api.ErrForm)
	expectRefused(t, "[-9223372036854775808x", 21, api.ErrForm)
	expectRefused(t, "09223372036854775808", 1, api.ErrForm)
	expectRefused(t, "-09223372036854775808", 1, api.ErrForm)
}

// P5.3: a value of a level above MaxDepth is refused when it begins, and only with a byte with which a value can begin.
func TestParseLevels(t *testing.T) {
	for _, opening := range []string{"[", " [ ", "[1,", `{"a":`, `{"$min":`, `{"a":1,"$id":`, `[{},"x",`, `{"a":[],"b":`} {
		for _, last := range []string{"[", `{"a":`, "[ ", `{ "$id"` + "\t: "} {
			most := strings.Repeat(opening, api.MaxDepth-1) + last
			for _, begun := range []string{"[", "{", "n", "t", "f", "nothing", "[]", "{}", strings.Repeat(opening, 1<<12)} {
				expectRefused(t, most+strings.TrimSpace(begun), len(most), api.ErrLimit)
			}
			for _, other := range []string{"", "x", ",", ":", "\x00", "+", "e", "'", "\xff"} {
				expectRefused(t, most+other, len(most), api.ErrForm)
			}
		}
		most := strings.Repeat(opening, api.MaxDepth-1) + "["
		for _, begun := range []string{`"`, `"a"]`, `"\x`, "1", "-", "0", "-x"} {
			expectRefused(t, most+begun, len(most), api.ErrLimit)
		}
	}
	expectRefused(t, strings.Repeat("[", 1<<16), api.MaxDepth, api.ErrLimit)
	expectRefused(t, strings.Repeat(`{"a":`, 1<<16), 5*api.MaxDepth, api.ErrLimit)
	expectRefused(t, strings.Repeat("[", api.MaxDepth), api.MaxDepth, api.ErrForm)
}

// P5.3: values of the level MaxDepth.
func TestParseDeepest(t *testing.T) {
	deepest := list(null, num(1), list(), doc(), text("x"), least, id("0123456789ab"))
	s, _ := Print(deepest)
	closed := strings.Repeat("[", api.MaxDepth-2) + s + strings.Repeat("]", api.MaxDepth-2)
	expectParse(t, closed, sample.NestedLists(api.MaxDepth-1, deepest))
	// The level counts, not the number of lists that have begun.
	wide := list()
	for range 50 {
		wide.List = append(wide.List, list(list()))
	}
	expectParse(t, "["+strings.Repeat("[[]],", 49)+"[[]]]", wide)
}

// P5.3: the value behind MaxNodes others is refused when it begins.
func TestParseNodes(t *testing.T) {
	full := "[" + strings.Repeat("1,", api.MaxNodes-1) // one mark behind MaxNodes values
	expectParse(t, "["+strings.Repeat("null,", api.MaxNodes-2)+"null]", sample.Nulls(api.MaxNodes-1))
	for _, begun := range []string{"1", "-", "n", "[", "{", `"`, "{}", `"a"]`, "1]", "1x"} {
		expectRefused(t, full+begun, len(full), api.ErrLimit)
		expectRefused(t, full+"  "+begun, len(full)+2, api.ErrLimit)
	}
	for _, other := range []string{"", "]", "x", ",", "}"} {
		expectRefused(t, full+other, len(full), api.ErrForm)
	}
	// Lists and documents within count like their parts, and a special value counts once.
	for _, c := range []struct {
		s     string
		count int
	}{
		{`[]`, 1}, {`{}`, 1}, {`"a"`, 1}, {`[[],{}]`, 3}, {`{"a":1}`, 2}, {`{"a":{"b":[2,3]},"c":4}`, 6}, {`{"$min":1}`, 1}, {`{"$id":"0123456789abcdef01234567"}`, 1}, {`{"$bytes":""}`, 1}, {`{"$time":5}`, 1}, {`[{"$max":1},{"$time":0}]`, 3},
		{`{"$min":2}`, 2}, {`{"$min":null}`, 2}, {`{"$min":{"$min":1}}`, 2}, {`{"$id":"0"}`, 2}, {`{"$time":5,"$min":1}`, 3}, {`{"a":1,"$min":1}`, 3},
	} {
		room := api.MaxNodes - 1 - c.count
		if _, _, errno := Parse("[" + strings.Repeat("0,", room) + c.s + "]"); errno != api.OK {
			t.Errorf("%s behind %d values: error %d", c.s, room+1, errno)
		}
		s := "[" + c.s + strings.Repeat(",0", room)
		expectRefused(t, s+", 0]", len(s)+2, api.ErrLimit)
		if _, _, errno := Parse("[" + strings.Repeat("0,", room+1) + c.s + "]"); errno != api.ErrLimit {
			t.Errorf("%s behind %d values: error %d", c.s, room+2, errno)
		}
	}
}

// P5.3: names are checked before the values behind them begin, and values begin before they are read.
func TestParseNodesAndOtherErrors(t *testing.T) {
	full := `{"a":[` + strings.Repeat("1,", api.MaxNodes-3) + `1]` // MaxNodes values
	for s, at := range map[string]int{`,"a"`: 1, `,"a":1`: 1, `,""`: 1, `,x`: 1, `,"b"x`: 4, `,"b":x`: 5, `,"b`: 3, `,"b"`: 4, `,"b":`: 5} {
		expectRefused(t, full+s, len(full)+at, api.ErrForm)
	}
	for _, s := range []string{"1", "99999999999999999999", `"` + strings.Repeat("a", 5000) + `"`, "\"\xff\"", "-x", "nul"} {
		expectRefused(t, full+`,"b":`+s, len(full)+5, api.ErrLimit)
	}
	expectRefused(t, full+`,"`+strings.Repeat("b", 129)+`":`, len(full)+1, api.ErrLimit)
	expectRefused(t, full+",", len(full)+1, api.ErrForm)
	expectRefused(t, full, len(full), api.ErrForm)
	if _, _, errno := Parse(full + "}"); errno != api.OK {
		t.Errorf("MaxNodes values: error %d", errno)
	}
}

// fullTexts returns beginnings of texts, behind which a value can begin but not a part of it: there would be too many levels, too many values, or both.
func fullTexts() []string {
	return []string{
		strings.Repeat("[", api.MaxDepth-1),
		strings.Repeat(`{"a": `, api.MaxDepth-1),
		"[" + strings.Repeat("0,", api.MaxNodes-2),
		`{"a":{},"b":[` + strings.Repeat("0,", api.MaxNodes-4),
		strings.Repeat("[", api.MaxDepth-2) + strings.Repeat("0,", api.MaxNodes-api.MaxDepth+1),
		strings.Repeat("[", api.MaxDepth-1) + strings.Repeat("0,", api.MaxNodes-api.MaxDepth),
	}
}

// P5.3: a string or an integer that may be within a special value is counted only when the object has turned out to be a document.
func TestParseHeldValues(t *testing.T) {
	const digits = `"0123456789abcdef01234567"`
	for _, c := range []struct {
		s     string
		at    int
		errno api.Errno
	}{
		// Nothing is known yet.
		{`{"$min":1`, 9, api.ErrForm}, {`{"$min":1 `, 10, api.ErrForm}, {`{"$min":1 x`, 10, api.ErrForm}, {`{"$min":1]`, 9, api.ErrForm}, {`{"$min":1:`, 9, api.ErrForm}, {`{"$min":-}`, 9, api.ErrForm}, {`{"$min":01`, 9, api.ErrForm}, {`{"$max":21.`, 10, api.ErrForm}, {`{"$time":-5"`, 11, api.ErrForm},
		{`{"$id":"a`, 9, api.ErrForm}, {`{"$id":"a"`, 10, api.ErrForm}, {`{"$id":"\x`, 9, api.ErrForm}, {`{"$bytes":"00"` + "\x00", 14, api.ErrForm}, {`{"$id":1`, 8, api.ErrForm}, {`{"$time":"" `, 12, api.ErrForm}, {`{"\u0024min":1`, 14, api.ErrForm}, {`{"$id" : ` + digits + `"`, 35, api.ErrForm},
		// The object is a document, since it has more fields.
		{`{"$min":1,`, 8, api.ErrLimit}, {`{"$max": 1 ,x`, 9, api.ErrLimit}, {`{"$time":0,"$time":0}`, 9, api.ErrLimit}, {`{"$id":` + digits + `,`, 7, api.ErrLimit}, {`{"$bytes":""` + "\n,", 10, api.ErrLimit}, {`{"$bytes":1,}`, 10, api.ErrLimit}, {`{"\u0024min":1,`, 13, api.ErrLimit},
		// The object is a document, since its value is not that of a special value.
		{`{"$min":0}`, 8, api.ErrLimit}, {`{"$min":"1"}`, 8, api.ErrLimit}, {`{"$max":2 }`, 8, api.ErrLimit}, {`{"$time":-1}x`, 9, api.ErrLimit}, {`{"$time":"0"}`, 9, api.ErrLimit}, {`{"$id":"ab"}`, 7, api.ErrLimit}, {`{"$id":1}`, 7, api.ErrLimit}, {`{"$id":"0123456789ABCDEF01234567"}`, 7, api.ErrLimit}, {`{"$bytes":"0"}`, 10, api.ErrLimit}, {`{"$bytes": 0 }`, 11, api.ErrLimit}, {`{"$\u0069d":""}`, 12, api.ErrLimit},
		// The value can be neither a string nor an integer.
		{`{"$min":n`, 8, api.ErrLimit}, {`{"$max":true}`, 8, api.ErrLimit}, {`{"$time":fx`, 9, api.ErrLimit}, {`{"$id":[`, 7, api.ErrLimit}, {`{"$bytes": {`, 11, api.ErrLimit}, {`{"$min":x`, 8, api.ErrForm}, {`{"$min":`, 8, api.ErrForm}, {`{"$min":{"$min":1}}`, 8, api.ErrLimit},
		// The name is another one.
		{`{"$Min":1`, 8, api.ErrLimit}, {`{"min":1}`, 7, api.ErrLimit}, {`{"$":"`, 5, api.ErrLimit}, {`{"$ids":"`, 8, api.ErrLimit}, {`{"$mi":-x`, 7, api.ErrLimit}, {`{" $id":"`, 8, api.ErrLimit}, {`{"$time\u0000":1`, 1, api.ErrForm},
		// The value has an error of its own.
		{`{"$id":"` + strings.Repeat("a", api.MaxText+1) + `"`, 7, api.ErrLimit}, {"{\"$id\":\"\xff\"", 7, api.ErrForm}, {"{\"$time\":\"\xff\"}", 9, api.ErrForm}, {"{\"$min\":\"\xff\",", 8, api.ErrForm}, {`{"$time":9223372036854775808`, 9, api.ErrLimit}, {`{"$max":-9223372036854775809x`, 8, api.ErrLimit},
	} {
		for _, full := range fullTexts() {
			expectRefused(t, full+c.s, len(full)+c.at, c.errno)
		}
	}
}

// P5.3: the value within a special value does not count.
func TestParseSpecialAtLimits(t *testing.T) {
	for _, s := range []string{`{"$min":1}`, ` {"$max" : 1 }`, `{ "$time":7}`, `{"$id":"0123456789abcdef01234567"}`, `{"$bytes":"00"}`} {
		v, _, _ := Parse(s)
		expectParse(t, strings.Repeat("[", api.MaxDepth-1)+s+strings.Repeat("]", api.MaxDepth-1), sample.NestedLists(api.MaxDepth, v))
		for _, full := range fullTexts() {
			expectRefused(t, full+s, len(full)+len(s), api.ErrForm)
			expectRefused(t, full+s+`x`, len(full)+len(s), api.ErrForm)
		}
	}
}

// P5.3: only the first value of an object is not counted at once.
func TestParseLaterValues(t *testing.T) {
	room := "[" + strings.Repeat("0,", api.MaxNodes-3)
	for _, first := range []string{`{"a":1,`, `{"a":{"$min":1},`, `{"$min":1,`, `{"$time":"x",`, `{"$id":null,`} {
		for _, name := range []string{"$max", "$bytes"} {
			s := room + first + `"` + name + `":`
			for _, begun := range []string{"1", "1}", "-x", `"`, "n", "{"} {
				expectRefused(t, s+begun, len(s), api.ErrLimit)
			}
			expectRefused(t, s, len(s), api.ErrForm)
			expectRefused(t, s+"x", len(s), api.ErrForm)
		}
	}
}

// P5.3: a value that turns out to count is counted before the next one.
func TestParseHeldValueCounts(t *testing.T) {
	for _, first := range []string{`{"$min":1,`, `{"$id":"0123456789abcdef01234567",`, `{"$time":-1,`, `{"a":1,`} {
		room := "[" + strings.Repeat("0,", api.MaxNodes-3)
		s := room + first + `"b": `
		expectRefused(t, s+"2}]", len(s), api.ErrLimit)
		expectRefused(t, s+"x", len(s), api.ErrForm)
		if _, _, errno := Parse(room[:len(room)-2] + first + `"b": 2}]`); errno != api.OK {
			t.Errorf("MaxNodes values that end with %s: error %d", first, errno)
		}
	}
	for _, first := range []string{`{"$min":2}`, `{"$bytes":"0"}`, `{"a":2}`} {
		s := "[" + strings.Repeat("0,", api.MaxNodes-3) + first + ","
		expectRefused(t, s+"2]", len(s), api.ErrLimit)
	}
}
