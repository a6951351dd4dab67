package notation

import (
	"maps"
	"slices"
	"strings"
	"testing"

	"docstore/api"
)

// matcher tries all ways to read a text by the rules of the chapter. The greatest offset at which it looked in vain for a byte is the first one with which no text can go on.
type matcher struct {
	s        string
	furthest int
}

// rule returns the offsets behind everything that it matches from an offset on.
type rule func(m *matcher, at int) []int

// span matches a byte of a range.
func span(low, high byte) rule {
	return func(m *matcher, at int) []int {
		if at < len(m.s) && m.s[at] >= low && m.s[at] <= high {
			return []int{at + 1}
		}
		m.furthest = max(m.furthest, at)
		return nil
	}
}

// set matches one of some bytes.
func set(bytes string) rule {
	var rules []rule
	for i := range len(bytes) {
		rules = append(rules, span(bytes[i], bytes[i]))
	}
	return either(rules...)
}

func word(s string) rule {
	var rules []rule
	for i := range len(s) {
		rules = append(rules, span(s[i], s[i]))
	}
	return sequence(rules...)
}

func sequence(rules ...rule) rule {
	return func(m *matcher, at int) []int {
		ends := []int{at}
		for _, r := range rules {
			next := map[int]bool{}
			for _, end := range ends {
				for _, n := range r(m, end) {
					next[n] = true
				}
			}
			ends = slices.Sorted(maps.Keys(next))
		}
		return ends
	}
}

func either(rules ...rule) rule {
	return func(m *matcher, at int) []int {
		var ends []int
		for _, r := range rules {
			ends = append(ends, r(m, at)...)
		}
		return ends
	}
}

// repeated matches a rule any number of times.
func repeated(r rule) rule {
	return func(m *matcher, at int) []int {
		ends := []int{at}
		for i := 0; i < len(ends); i++ {
			for _, end := range r(m, ends[i]) {
				if !slices.Contains(ends, end) {
					ends = append(ends, end)
				}
			}
		}
		return ends
	}
}

// literals returns the rules for strings and integers.
func literals() (str, integer rule) {
	hex := either(span('0', '9'), span('a', 'f'), span('A', 'F'))
	before := either(span('0', '9'), set("abcefABCEF"))
	code := either(sequence(before, hex, hex, hex), sequence(set("dD"), span('0', '7'), hex, hex))
	escape := sequence(word(`\`), either(set(`"\/bfnrt`), sequence(word("u"), code)))
	character := either(span(0x20, 0x21), span(0x23, 0x5b), span(0x5d, 0xff), escape)
	str = sequence(word(`"`), repeated(character), word(`"`))
	digits := sequence(span('1', '9'), repeated(span('0', '9')))
	return str, either(word("0"), digits, sequence(word("-"), digits))
}

// wholeText returns the rule for texts of values.
func wholeText() rule {
	str, integer := literals()
	blanks := repeated(set("\t\n\r "))
	separated := func(r rule) rule { return sequence(r, repeated(sequence(word(","), r))) }
	var value rule
	element := sequence(blanks, func(m *matcher, at int) []int { return value(m, at) }, blanks)
	field := sequence(blanks, str, blanks, word(":"), element)
	list := sequence(word("["), either(blanks, separated(element)), word("]"))
	object := sequence(word("{"), either(blanks, separated(field)), word("}"))
	value = either(word("null"), word("true"), word("false"), integer, str, list, object)
	return sequence(blanks, value, blanks)
}

// expectForm compares with the grammar. Only what names and values contain, and the limits, can make Parse refuse a text at an earlier byte, which is where a value begins or a string.
func expectForm(t *testing.T, whole rule, s string, formOnly bool) {
	t.Helper()
	m := &matcher{s: s}
	isText := slices.Contains(whole(m, 0), len(s))
	_, at, errno := Parse(s)
	switch {
	case isText && errno == api.OK, !isText && errno == api.ErrForm && at == m.furthest:
	case errno == api.OK || formOnly || at >= m.furthest || errno == api.ErrForm && s[at] != '"':
		t.Errorf("Parse of %q: %d, error %d; a text: %t, with its first error at %d", brief(s), at, errno, isText, m.furthest)
	}
}

// forAll calls a function with all sequences of at most n tokens, behind another text.
func forAll(before string, tokens []string, n int, f func(s string)) {
	f(before)
	if n == 0 {
		return
	}
	for _, token := range tokens {
		forAll(before+token, tokens, n-1, f)
	}
}

// P5.3: ErrForm is where the grammar says, for short texts of all forms.
func TestParseByGrammar(t *testing.T) {
	whole := wholeText()
	check := func(s string) { expectForm(t, whole, s, true) }
	forAll("", []string{"{", "}", "[", "]", ",", ":", `"a"`, `"b"`, "0", "1", "-", " ", "nul", "l"}, 4, check)
	for _, before := range []string{"[", "{", `{"a":`, `{"a":1,`, `[[`, `[{"a":[]`, `{"$min":1`, `{"$id": "`} {
		forAll(before, []string{"{", "}", "[", "]", ",", ":", `"c"`, "7", "0", "-", "\n", "t", "rue"}, 3, check)
	}
}

// P5.3: the same for characters of strings.
func TestParseStringsByGrammar(t *testing.T) {
	whole := wholeText()
	check := func(s string) { expectForm(t, whole, s, true) }
	forAll(`"`, []string{`"`, `\`, "u", "0", "d", "8", "D", "e", "n", "/", "\x1f", " "}, 4, check)
	forAll(`"\u`, []string{"0", "7", "8", "9", "a", "d", "D", "F", "g", `"`, `\`}, 4, check)
	for b := range 0x100 {
		s := string([]byte{byte(b)})
		for _, before := range []string{"", `"`, `"\`, `"\u`, `"\u0`, `"\u00`, `"\u000`, `"\ud`, `"\uD`, `"\ud7`, `"\ud7f`, "-", "1", "0", "n", "[", "{", `{"a"`, `{"a":`, `{"a":1`, "[1", "[]"} {
			expectForm(t, whole, before+s, false)
			expectForm(t, whole, before+s+`"`, false)
		}
	}
}

// The grammar accepts what the chapter says, and nothing else.
func TestGrammar(t *testing.T) {
	whole := wholeText()
	for s, furthest := range map[string]int{"[1,02]": 4, "[1": 2, "nuul": 2, `"\ud8"`: 4, `"\ud7FF"x`: 8, "-0": 1, `{"a":1,}`: 7, "": 0} {
		m := &matcher{s: s}
		if ends := whole(m, 0); slices.Contains(ends, len(s)) || m.furthest != furthest {
			t.Errorf("%q: %v, %d; expected %d", s, ends, m.furthest, furthest)
		}
	}
	for _, c := range writtenPool() {
		for _, s := range []string{c.s, " " + c.s + "\n", strings.ReplaceAll(c.s, ",", " ,\t")} {
			if !slices.Contains(whole(&matcher{s: s}, 0), len(s)) {
				t.Errorf("%q is refused", s)
			}
		}
	}
}
