package expr

import (
	"math"
	"strings"
	"testing"
	"unicode/utf8"

	"docstore/api"
)

// P8.4: the operators on strings.
func TestTexts(t *testing.T) {
	expectValues(t, `{"s":"aBz","n":5,"u":"éA"}`, []evaluation{
		{`{"$concat":[]}`, `""`}, {`{"$concat":["$s"]}`, `"aBz"`}, {`{"$concat":["$s","","-","$s","é"]}`, `"aBz-aBzé"`},
		{`{"$lower":"$s"}`, `"abz"`}, {`{"$upper":"$s"}`, `"ABZ"`}, {`{"$lower":"$u"}`, `"éa"`}, {`{"$upper":"$u"}`, `"éA"`}, {`{"$lower":"ÉZ[@"}`, `"Éz[@"`}, {"{\"$upper\":\"z{`a\"}", "\"Z{`A\""},
		{`{"$length":"$s"}`, `3`}, {`{"$length":""}`, `0`}, {`{"$length":"é"}`, `2`}, {`{"$length":"€"}`, `3`},
		{`{"$slice":["abc",0,2]}`, `"ab"`}, {`{"$slice":["abc",1,1]}`, `"b"`}, {`{"$slice":["abc",1,9]}`, `"bc"`}, {`{"$slice":["abc",0,0]}`, `""`}, {`{"$slice":["abc",3,1]}`, `""`}, {`{"$slice":["abc",4,1]}`, `""`},
		{`{"$slice":["abc",2,9223372036854775807]}`, `"c"`}, {`{"$slice":["abc",9223372036854775807,9223372036854775807]}`, `""`}, {`{"$slice":["",0,5]}`, `""`},
		{`{"$slice":["abc",-1,1]}`, `null`}, {`{"$slice":["abc",0,-1]}`, `null`}, {`{"$slice":["abc",-9223372036854775808,0]}`, `null`}, {`{"$slice":["abc",9,-1]}`, `null`},
		{`{"$slice":["aé",0,2]}`, `null`}, {`{"$slice":["aé",2,1]}`, `null`}, {`{"$slice":["aé",1,2]}`, `"é"`}, {`{"$slice":["aé",1,9]}`, `"é"`}, {`{"$slice":["aé",2,0]}`, `""`},
		{`{"$concat":["$s","$n"]}`, `null`}, {`{"$concat":["$s","$nope"]}`, `null`}, {`{"$concat":[null]}`, `null`},
	})
}

// P8.4: every byte of a string in lower and upper case.
func TestCase(t *testing.T) {
	for b := range 0x80 {
		lower, upper := byte(b), byte(b)
		if strings.IndexByte("ABCDEFGHIJKLMNOPQRSTUVWXYZ", byte(b)) >= 0 {
			lower += 32
		}
		if strings.IndexByte("abcdefghijklmnopqrstuvwxyz", byte(b)) >= 0 {
			upper -= 32
		}
		e := api.Expr{Op: api.ExValue, Arg: text("x" + string([]byte{byte(b)}) + "Y")}
		expectValue(t, node(api.ExLower, e), val("{}"), text("x"+string([]byte{lower})+"y"))
		expectValue(t, node(api.ExUpper, e), val("{}"), text("X"+string([]byte{upper})+"Y"))
	}
	for r := rune(0x80); r < 0x3000; r++ { // letters beyond z, and those whose other case is a letter from a to z
		s := string([]rune{r, 0x212a, 0x17f, 0x10ffff})
		e := api.Expr{Op: api.ExValue, Arg: text(s + "aZ")}
		expectValue(t, node(api.ExLower, e), val("{}"), text(s+"az"))
		expectValue(t, node(api.ExUpper, e), val("{}"), text(s+"AZ"))
	}
}

// P8.4: every part of a string, compared with its bytes one by one.
func TestSlices(t *testing.T) {
	const s = "a\u00e9b\u20acc\U0001f600"
	for _, from := range []int{math.MinInt, -1, 0, 1, 2, 3, 4, 5, 6, 7, 8, 9, 10, 11, 12, 13, 14, math.MaxInt - 1, math.MaxInt} {
		for _, count := range []int{math.MinInt, -1, 0, 1, 2, 3, 4, 5, 9, 11, 12, 13, 14, math.MaxInt - 1, math.MaxInt} {
			var b []byte
			for i := range len(s) {
				if i >= from && i-from < count {
					b = append(b, s[i])
				}
			}
			want := text(string(b))
			if from < 0 || count < 0 || !utf8.Valid(b) {
				want = null()
			}
			operands := append([]api.Expr{{Op: api.ExValue, Arg: text(s)}}, ints(from, count)...)
			expectValue(t, node(api.ExSlice, operands...), val("{}"), want)
		}
	}
}

// P8.4: operands of other kinds, bytes and identifiers among them.
func TestTextsOtherKinds(t *testing.T) {
	for _, e := range operands() {
		if e.Arg.Kind != api.KindText {
			for _, op := range []int{api.ExConcat, api.ExLower, api.ExUpper, api.ExLength} {
				expectValue(t, node(op, e), val("{}"), null())
			}
			expectValue(t, node(api.ExConcat, lit(`"a"`), e), val("{}"), null())
			expectValue(t, node(api.ExConcat, e, lit(`"a"`)), val("{}"), null())
			expectValue(t, node(api.ExSlice, e, lit("0"), lit("1")), val("{}"), null())
		}
		if e.Arg.Kind != api.KindInt {
			expectValue(t, node(api.ExSlice, lit(`"abc"`), e, lit("1")), val("{}"), null())
			expectValue(t, node(api.ExSlice, lit(`"abc"`), lit("0"), e), val("{}"), null())
		}
	}
}

// P8.4: a string that is too long is null.
func TestLongTexts(t *testing.T) {
	half := api.Expr{Op: api.ExValue, Arg: text(strings.Repeat("a", api.MaxText/2))}
	expectValue(t, node(api.ExConcat, half, half), val("{}"), text(strings.Repeat("a", api.MaxText)))
	expectValue(t, node(api.ExConcat, half, lit(`"b"`), half), val("{}"), null())
	expectValue(t, node(api.ExLength, node(api.ExConcat, half, half)), val("{}"), num(api.MaxText))
	expectValue(t, node(api.ExLength, node(api.ExConcat, half, half, lit(`"b"`))), val("{}"), null())
	expectValue(t, node(api.ExConcat, times(api.MaxPreds-1, half)...), val("{}"), null())
	expectValue(t, node(api.ExIfNull, node(api.ExConcat, half, half, half), lit("1")), val("{}"), num(1))
}
