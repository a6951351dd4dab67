package notation

import (
	"fmt"
	"math"
	"slices"
	"strings"
	"testing"

	"docstore/api"
)

// P5.3: blanks may stand before, between and behind all tokens.
func TestParseBlanks(t *testing.T) {
	tokens := []string{"{", `"a"`, ":", "[", "]", ",", `"b"`, ":", "[", "1", ",", "{", "}", ",", "true", ",", `"x y"`, "]", ",", `"c"`, ":", "{", `"$time"`, ":", "12", "}", "}"}
	want := doc(field("a", list()), field("b", list(num(1), doc(), boolean(1), text("x y"))), field("c", instant(12)))
	expectParse(t, strings.Join(tokens, ""), want)
	for _, blanks := range []string{" ", "\t", "\n", "\r", "\r\n\t  ", strings.Repeat(" ", 10000)} {
		for i := range len(tokens) + 1 {
			expectParse(t, strings.Join(slices.Insert(slices.Clone(tokens), i, blanks), ""), want)
		}
		expectParse(t, blanks+strings.Join(tokens, blanks)+blanks, want)
	}
}

// P5.3: no other byte is a blank.
func TestParseOtherBlanks(t *testing.T) {
	for b := range 0x100 {
		s := string([]byte{byte(b)})
		if strings.Contains("\t\n\r ", s) {
			continue
		}
		expectRefused(t, "true"+s, 4, api.ErrForm)
		expectRefused(t, "[1, 2] "+s, 7, api.ErrForm)
		if s != "]" && s != "," {
			expectRefused(t, "[true "+s, 6, api.ErrForm)
		}
		if s != `"` && s != "}" {
			expectRefused(t, "{"+s, 1, api.ErrForm)
		}
	}
}

// P5.3: the characters of string literals.
func TestParseCharacters(t *testing.T) {
	for s, want := range map[string]string{
		`""`:                       "",
		`"a"`:                      "a",
		`"\"\\\/\b\f\n\r\t"`:       "\"\\/\b\f\n\r\t",
		`"/'"`:                     "/'",
		"\"\x7f\u00e9\uffff\"":     "\x7f\u00e9\uffff",
		`"\u0000"`:                 "\x00",
		`"\u0041\u007f\u0080"`:     "A\x7f\u0080",
		`"\u00e9\u00E9"`:           "\u00e9\u00e9",
		`"\u20ac\u20AC\u20aC"`:     "\u20ac\u20ac\u20ac",
		`"\uabcd\uABCD\uaBcD"`:     "\uabcd\uabcd\uabcd",
		`"\uefef\uEFEF\ufffe"`:     "\uefef\uefef\ufffe",
		`"\ud7ff\uD7FF\ue000"`:     "\ud7ff\ud7ff\ue000",
		`"\u07ff\u0800\uffff"`:     "\u07ff\u0800\uffff",
		`"\u00411"`:                "A1",
		`"\\u0041"`:                `\u0041`,
		`"\u005cn\u0022"`:          `\n"`,
		"\"\U0001f600\U0010ffff\"": "\U0001f600\U0010ffff",
	} {
		expectParse(t, s, text(want))
		expectParse(t, `{"a":[`+s+`]}`, only("a", list(text(want))))
	}
}

// P5.3: every number behind \u, in small and in capital digits.
func TestParseCodePoints(t *testing.T) {
	for n := range 0x10000 {
		for _, digits := range []string{fmt.Sprintf("%04x", n), fmt.Sprintf("%04X", n)} {
			s := `"\u` + digits + `"`
			if n >= 0xd800 && n <= 0xdfff {
				expectRefused(t, s, 4, api.ErrForm)
				continue
			}
			v, at, errno := Parse(s)
			if v.Kind != api.KindText || v.Text != string(rune(n)) || at != 0 || errno != api.OK {
				t.Errorf("Parse of %s: %q, %d, error %d", s, v.Text, at, errno)
			}
		}
	}
}

// P5.3: the name of a field is what the characters of its literal stand for.
func TestParseNames(t *testing.T) {
	for s, want := range map[string]string{
		`"a"`: "a", `" "`: " ", `"~"`: "~", `"\""`: `"`, `"\\"`: `\`, `"\/"`: "/", `"\u0041"`: "A", `"\u0020\u007e"`: " ~", `"$set"`: "$set", `"a.b.$"`: "a.b.$",
	} {
		expectParse(t, `{`+s+`:1}`, only(want, num(1)))
		expectParse(t, `{"first":[],`+s+`:1}`, doc(field("first", list()), field(want, num(1))))
	}
	expectParse(t, `{"a":{"a":1},"A":[{"a":2}]}`, doc(field("a", only("a", num(1))), field("A", list(only("a", num(2))))))
}

// P5.3: integers of every number of digits.
func TestParseIntegers(t *testing.T) {
	for s, want := range map[string]int{
		"0": 0, "1": 1, "-1": -1, "9": 9, "10": 10, "-90": -90, "1234567890": 1234567890, "100000000000000000": 100000000000000000,
		"9223372036854775806": math.MaxInt - 1, "9223372036854775807": math.MaxInt, "-9223372036854775807": -math.MaxInt, "-9223372036854775808": math.MinInt,
	} {
		expectParse(t, s, num(want))
		expectParse(t, "["+s+"]", list(num(want)))
		expectParse(t, `{"a":`+s+" }", only("a", num(want)))
	}
}

// P5.3: special values, whatever the blanks and the characters of their literals.
func TestParseSpecial(t *testing.T) {
	for s, want := range map[string]api.Value{
		`{"$id":"0123456789abcdef00000000"}`:           id("\x01\x23\x45\x67\x89\xab\xcd\xef\x00\x00\x00\x00"),
		` { "$id" : "ffffffffffffffffffffffff" } `:     id(strings.Repeat("\xff", 12)),
		`{"\u0024id":"0123456789\u0061bcdef00000000"}`: id("\x01\x23\x45\x67\x89\xab\xcd\xef\x00\x00\x00\x00"),
		`{"$bytes":""}`:                                            octets(""),
		`{"$bytes":"00"}`:                                          octets("\x00"),
		`{"$bytes":"\u0066\u0066"}`:                                octets("\xff"),
		`{"$bytes":"` + strings.Repeat("9e", 12) + `"}`:            octets(strings.Repeat("\x9e", 12)),
		`{"$bytes":"` + strings.Repeat("a0", api.MaxText/2) + `"}`: octets(strings.Repeat("\xa0", api.MaxText/2)),
		`{"$time":0}`:                                              instant(0),
		`{"$time":1700000000000}`:                                  instant(1700000000000),
		`{"$min":1}`:                                               least,
		"{\n\"$min\"\t:\r1 }":                                      least,
		`{"$max":1}`:                                               greatest,
		`{"\u0024m\u0061x":1}`:                                     greatest,
	} {
		expectParse(t, s, want)
		expectParse(t, "["+s+", "+s+"]", list(want, want))
		expectParse(t, `{"$id":`+s+`}`, only("$id", want))
		expectParse(t, `{"a":null,"$min":`+s+`}`, doc(field("a", null), field("$min", want)))
	}
}

// P5.3: an object with more fields than one is a document.
func TestParseMoreFields(t *testing.T) {
	a := text("0123456789abcdef01234567")
	expectParse(t, `{"$id":"0123456789abcdef01234567","b":1}`, doc(field("$id", a), field("b", num(1))))
	expectParse(t, `{"b":1,"$id":"0123456789abcdef01234567"}`, doc(field("b", num(1)), field("$id", a)))
	expectParse(t, `{"$bytes":"00","$time":0}`, doc(field("$bytes", text("00")), field("$time", num(0))))
	expectParse(t, `{"$min":1,"$max":1}`, doc(field("$min", num(1)), field("$max", num(1))))
	expectParse(t, `{"$max":1,"b":{"$max":1}}`, doc(field("$max", num(1)), field("b", greatest)))
	expectParse(t, `{"b":{"$max":1},"$max":1}`, doc(field("b", greatest), field("$max", num(1))))
}

// P5.3: a byte with which no text can go on.
func TestParseForm(t *testing.T) {
	for _, c := range []struct {
		s  string
		at int
	}{
		{"", 0}, {" ", 1}, {"\n\n", 2}, {"x", 0}, {"}", 0}, {",", 0}, {":", 0}, {"+1", 0}, {".5", 0}, {"'a'", 0}, {"N", 0}, {"True", 0}, {"\x00", 0}, {"\xff", 0}, {"\u00a0", 0}, {"\v1", 0}, {"\ufeff1", 0},
		{"n", 1}, {"nul", 3}, {"nuul", 2}, {"nil", 1}, {"nulll", 4}, {"null null", 5}, {"tru", 3}, {"trUe", 2}, {"truee", 4}, {"fals", 4}, {"falsy", 4}, {"false0", 5}, {"n ull", 1},
		{"1 1", 2}, {"1.5", 1}, {"1e5", 1}, {"1E5", 1}, {"1_0", 1}, {"0x1", 1}, {"12a", 2}, {"1-", 1}, {"1+1", 1}, {"1\x00", 1},
		{"-", 1}, {"--1", 1}, {"-a", 1}, {"- 1", 1}, {"-0", 1}, {"-01", 1}, {"+0", 0}, {"00", 1}, {"01", 1}, {"007", 1}, {"0-", 1}, {"0 0", 2}, {"\u0661", 0},
		{"[", 1}, {"[ ", 2}, {"[1", 2}, {"[1 ", 3}, {"[1,", 3}, {"[1,]", 3}, {"[1 2", 3}, {"[,", 1}, {"[1,,", 3}, {"[1:", 2}, {"[1}", 2}, {"[}", 1}, {"[[]", 3}, {"[1,02]", 4}, {"[1,-]", 4}, {`["a"1`, 4}, {`[1"a"`, 2}, {"[nulltrue", 5}, {"[[][", 3}, {"[] []", 3}, {"[]x", 2},
		{"{", 1}, {"{ ", 2}, {"{1", 1}, {"{,", 1}, {"{:", 1}, {"{]", 1}, {"{n", 1}, {"{a", 1}, {"{'", 1}, {"{[", 1}, {"{{", 1}, {`{"`, 2}, {`{"a`, 3}, {`{"a"`, 4}, {`{"a" `, 5}, {`{"a" "`, 5}, {`{"a",`, 4}, {`{"a"}`, 4}, {`{"a"1`, 4}, {`{"a":`, 5}, {`{"a":}`, 5}, {`{"a":,`, 5}, {`{"a"::`, 5}, {`{"a":x`, 5}, {`{"a":]`, 5},
		{`{"a":1`, 6}, {`{"a":1 `, 7}, {`{"a":1]`, 6}, {`{"a":1:`, 6}, {`{"a":1"`, 6}, {`{"a":1,`, 7}, {`{"a":1,}`, 7}, {`{"a":1,,`, 7}, {`{"a":1,1`, 7}, {`{"a":1,"b"`, 10}, {`{"a":1,"b"}`, 10}, {`{}{}`, 2}, {`{} {}`, 3}, {`{"a":01`, 6},
		{`"`, 1}, {`"a`, 2}, {`"a"b`, 3}, {`"a""`, 3}, {`""""`, 2}, {`"a" "b"`, 4}, {"\"\\", 2}, {`"\x`, 2}, {`"\"`, 3}, {`"\\\`, 4}, {`"\'`, 2}, {`"\0`, 2}, {`"\U0041`, 2}, {`"\N`, 2}, {`"\a`, 2}, {`"\v`, 2}, {"\"\\\n", 2}, {"\"\\\x00", 2}, {"\"\\\xff", 2}, {`"\ n`, 2},
		{`"\u`, 3}, {`"\u"`, 3}, {`"\u0`, 4}, {`"\u00`, 5}, {`"\u004`, 6}, {`"\u0041`, 7}, {`"\u12"`, 5}, {`"\u123"`, 6}, {`"\ug`, 3}, {`"\u0g`, 4}, {`"\u00G0`, 5}, {`"\u004x`, 6}, {`"\u 041`, 3}, {`"\u-041`, 3}, {`"\u+041`, 3}, {`"\u{41}`, 3}, {`"\u\u0041`, 3}, {"\"\\u\x10041", 3}, {"\"\\u00\x114", 5}, {"\"\\u\u0660", 3}, {"\"\\u000\x00", 6},
		{`"\ud8`, 4}, {`"\uD8`, 4}, {`"\udfff`, 4}, {`"\uDC00`, 4}, {`"\uda00`, 4}, {`"\udE`, 4}, {`"\ud9\"`, 4}, {`"\ud83d\ude00"`, 4}, {`"\ud`, 4}, {`"\ud7`, 5}, {`"\ud7f`, 6}, {`"\ud7fg`, 6}, {`"\ue`, 4}, {`"\u0d8`, 6}, {`"\u00d8`, 7},
		{"\"a\nb\"", 2}, {"\"\x00\"", 1}, {"\"\x1f", 1}, {"\"a\tb\"", 2}, {"\"\r", 1}, {"{\"a\n", 3},
	} {
		expectWithin(t, c.s, c.at, api.ErrForm)
	}
}

// P5.3: marks that could only stand within a list or an object.
func TestParseMarksBehind(t *testing.T) {
	for _, s := range []string{"", " ", "1", "0", "true ", `"a"`, "[]", "[1]", "{}", `{"a":1}`, `{"$min":1} `} {
		for _, mark := range []string{"]", "}", ",", ":"} {
			expectRefused(t, s+mark, len(s), api.ErrForm)
			expectRefused(t, s+mark+"1", len(s), api.ErrForm)
		}
	}
}
