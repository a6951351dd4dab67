package keyenc

import (
	"math"
	"slices"
	"strings"
	"testing"

	"docstore/api"
	"docstore/sample"
)

// P3.2: every kind where a value of the list begins, and within lists and documents.
func TestDecodeKinds(t *testing.T) {
	expectRefused(t, "", api.ErrShort)
	expectRefused(t, "\x06\x01", api.ErrShort)
	expectRefused(t, "\x05\x01a\x00", api.ErrShort)
	for kind := range 0x100 {
		s := string([]byte{byte(kind)})
		if kind >= api.KindMin && kind <= api.KindMax {
			for _, before := range []string{"", "\x06\x01", "\x05\x01a\x00"} {
				if _, errno := Decode(before+s, directions(false)); errno == api.ErrForm {
					t.Errorf("the kind %d is refused behind %x", kind, before)
				}
			}
			continue
		}
		if kind != api.KindNone {
			expectRefused(t, s, api.ErrForm)
			expectRefused(t, s+"\x00\x00\x00\x00\x00\x00\x00\x00", api.ErrForm)
		}
		expectRefused(t, "\x06\x01"+s, api.ErrForm)
		expectRefused(t, "\x06\x01\x02\x01"+s+"\x00", api.ErrForm)
		expectRefused(t, "\x05\x01a\x00"+s, api.ErrForm)
		expectRefused(t, "\x06\x01\x05\x01a\x00"+s+"\x00\x00", api.ErrForm)
	}
}

// P3.2: integers, booleans and times have eight bytes, which are read before their value counts.
func TestDecodeNumbers(t *testing.T) {
	for _, kind := range []string{"\x03", "\x09", "\x0a"} {
		for n := range 8 {
			for _, b := range []string{"\x00", "\x80", "\xff"} {
				expectRefused(t, kind+strings.Repeat(b, n), api.ErrShort)
				expectRefused(t, "\x06\x01"+kind+strings.Repeat(b, n), api.ErrShort)
			}
		}
	}
	for _, s := range []string{"\x80\x00\x00\x00\x00\x00\x00\x02", "\x7f\xff\xff\xff\xff\xff\xff\xff", "\x00\x00\x00\x00\x00\x00\x00\x01", "\x80\x00\x00\x00\x00\x00\x01\x00", "\xff\xff\xff\xff\xff\xff\xff\xff"} {
		expectRefused(t, "\x09"+s, api.ErrForm)
		expectRefused(t, "\x06\x01\x09"+s+"\x00", api.ErrForm)
	}
	for _, s := range []string{"\x7f\xff\xff\xff\xff\xff\xff\xff", "\x00\x00\x00\x00\x00\x00\x00\x00"} {
		expectRefused(t, "\x0a"+s, api.ErrForm)
		expectRefused(t, "\x05\x01a\x00\x0a"+s+"\x00", api.ErrForm)
	}
}

// P3.2: a byte 00 within a string, bytes or an identifier is followed by 00 or ff.
func TestDecodeTexts(t *testing.T) {
	for _, kind := range []string{"\x04", "\x07", "\x08"} {
		for _, s := range []string{"", "a", "\x00", "a\x00", "\xff", "\x00\xff", "\x00\xff\x00", "\x00\xff\x00\xff", "0123456789ab", "0123456789ab\x00"} {
			expectRefused(t, kind+s, api.ErrShort)
		}
		for b := 1; b < 0xff; b++ {
			s := "\x00" + string([]byte{byte(b)})
			expectRefused(t, kind+s, api.ErrForm)
			expectRefused(t, kind+"a"+s+"\x00\x00", api.ErrForm)
			expectRefused(t, kind+"\x00\xff"+s+"\x00\x00", api.ErrForm)
			expectRefused(t, "\x06\x01"+kind+"\xff"+s+"\x00\x00\x00", api.ErrForm)
		}
	}
}

// P3.2: the conditions of strings and identifiers count when the value of the list has been read completely.
func TestDecodeTextConditions(t *testing.T) {
	for _, s := range []string{"\xff", "\x80", "a\xc3", "\xc0\x80", "\xc3\x00\xff\xa9", "\xe0\x80\x80", "\xed\xa0\x80", "\xf4\x90\x80\x80", strings.Repeat("a", api.MaxText+1)} {
		expectRefused(t, "\x04"+s, api.ErrShort)
		expectRefused(t, "\x04"+s+"\x00\x00", api.ErrForm)
		expectRefused(t, "\x06\x01\x04"+s+"\x00\x00", api.ErrShort)
		expectRefused(t, "\x06\x01\x04"+s+"\x00\x00\x00", api.ErrForm)
	}
	expectRefused(t, "\x07"+strings.Repeat("\xff", api.MaxText+1)+"\x00\x00", api.ErrForm)
	expectRefused(t, "\x07"+strings.Repeat("\x00\xff", api.MaxText+1)+"\x00\x00", api.ErrForm)
	for _, n := range []int{0, 1, 11, 13, 24, api.MaxText} {
		expectRefused(t, "\x08"+strings.Repeat("a", n), api.ErrShort)
		expectRefused(t, "\x08"+strings.Repeat("a", n)+"\x00\x00", api.ErrForm)
		expectRefused(t, "\x08"+strings.Repeat("\x00\xff", n)+"\x00\x00", api.ErrForm)
	}
}

// P3.2: a list or a document ends or goes on by a byte 00 or 01.
func TestDecodeEnds(t *testing.T) {
	for _, before := range []string{"\x06", "\x05", "\x06\x01\x02", "\x05\x01a\x00\x02", "\x06\x01\x06", "\x06\x01\x06\x00", "\x06\x01\x05", "\x05\x01a\x00\x05", "\x05\x01a\x00\x05\x00", "\x06\x01\x04\x00\x00"} {
		expectRefused(t, before, api.ErrShort)
		for b := 2; b <= 0xff; b++ {
			s := string([]byte{byte(b)})
			expectRefused(t, before+s, api.ErrForm)
			expectRefused(t, before+s+"\x02\x00\x00", api.ErrForm)
		}
	}
}

// P3.2: a name has any bytes but 00; whether it is a name counts when the value of the list has been read completely.
func TestDecodeNames(t *testing.T) {
	expectRefused(t, "\x05\x01", api.ErrShort)
	expectRefused(t, "\x05\x01a", api.ErrShort)
	long := strings.Repeat("a", api.MaxName+1)
	for _, name := range []string{"", "$", "$a", "a.b", ".", " ", "\x7f", "\x01", "\xff", "a\x1f", "\u00e9", long, long + long} {
		s := "\x05\x01" + name
		expectRefused(t, s, api.ErrShort)
		expectRefused(t, s+"\x00", api.ErrShort)
		expectRefused(t, s+"\x00\x02", api.ErrShort)
		expectRefused(t, s+"\x00\x02\x00", api.ErrForm)
		expectRefused(t, "\x06\x01"+s+"\x00\x02\x00", api.ErrShort)
		expectRefused(t, "\x06\x01"+s+"\x00\x02\x00\x00", api.ErrForm)
	}
	equal := "\x05\x01a\x00\x02\x01b\x00\x02\x01a\x00\x02"
	expectRefused(t, equal, api.ErrShort)
	expectRefused(t, equal+"\x00", api.ErrForm)
	expectKey(t, values(doc(field("a", doc(field("a", null))), field("A", null))), directions(false), "\x05\x01a\x00\x05\x01a\x00\x02\x00\x01A\x00\x02\x00")
}

// P3.2: at depth MaxDepth+1 no byte can stand, but one is needed.
func TestDecodeLevels(t *testing.T) {
	for _, one := range []string{"\x06\x01", "\x05\x01a\x00"} {
		last := strings.Repeat(one, api.MaxDepth-1)
		ends := strings.Repeat("\x00", api.MaxDepth-1)
		expectRefused(t, last, api.ErrShort)
		for _, s := range []string{"\x02", "\x06\x00", "\x05\x00", "\x04\x00\x00"} {
			expectRefused(t, last+s, api.ErrShort)
			if _, errno := Decode(last+s+ends, directions(false)); errno != api.OK {
				t.Errorf("%x at depth MaxDepth: error %d", s, errno)
			}
		}
		expectRefused(t, last+one, api.ErrShort)
		expectRefused(t, last+one[:len(one)-1], api.ErrShort)
		for kind := range 0x100 {
			s := string([]byte{byte(kind)})
			expectRefused(t, last+one+s, api.ErrForm)
		}
		expectRefused(t, last+"\x00", api.ErrForm)
		expectRefused(t, strings.Repeat(one, 1<<15), api.ErrForm)
	}
	// The level counts, not the number of lists that have begun.
	wide := list(slices.Repeat(values(list(list())), api.MaxDepth+1)...)
	expectKey(t, values(wide, wide), directions(false, true), encode(t, values(wide), directions(false))+encode(t, values(wide), directions(true)))
	deep := sample.NestedLists(api.MaxDepth-1, list(null, num(1), list(), doc()))
	expectKey(t, values(deep), directions(false), encode(t, values(deep), directions(false)))
}

// P3.2: too many values within a value are an error when it has been read completely, however many they are.
func TestDecodeNodes(t *testing.T) {
	for _, n := range []int{api.MaxNodes, api.MaxNodes + 1, 1 << 16} {
		for _, one := range []string{"\x01\x02", "\x01\x06\x00", "\x01\x05\x01a\x00\x02\x00"} {
			s := strings.Repeat(one, n)
			expectRefused(t, "\x06"+s, api.ErrShort)
			expectRefused(t, "\x06"+s+"\x02", api.ErrForm)
			expectRefused(t, "\x06"+s+"\x00", api.ErrForm)
			expectRefused(t, "\x06\x01\x06"+s+"\x00", api.ErrShort)
			expectRefused(t, "\x06\x01\x06"+s+"\x00\x00", api.ErrForm)
		}
		s := strings.Repeat("\x01a\x00\x02", n)
		expectRefused(t, "\x05"+s, api.ErrShort)
		expectRefused(t, "\x05"+s+"\x00", api.ErrForm)
	}
	// A part that is kept no more is read like every other one.
	s := "\x06" + strings.Repeat("\x01\x02", 2*api.MaxNodes)
	expectRefused(t, s+"\x01\x00\x00", api.ErrForm)
	expectRefused(t, s+"\x01\x04a", api.ErrShort)
	expectRefused(t, s+"\x01\x05\x01a\x00", api.ErrShort)
	expectRefused(t, s+"\x01\x05\x01a\x00\x00", api.ErrForm)
	// What remains of too many values without the last ones would be valid.
	tree := sample.Nulls(api.MaxNodes - 2)
	kept := encode(t, values(tree), directions(false))
	expectRefused(t, "\x06\x01"+kept+"\x01\x02\x00", api.ErrForm)
	expectRefused(t, "\x05\x01a\x00"+kept+"\x01b\x00\x02\x00", api.ErrForm)
	expectKey(t, values(list(tree)), directions(false), "\x06\x01"+kept+"\x00")
	expectKey(t, values(doc(field("a", tree))), directions(false), "\x05\x01a\x00"+kept+"\x00")
}

// P3.2: bytes behind the last value are the last error.
func TestDecodeTrail(t *testing.T) {
	expectDecode(t, "\x02\x02", directions(false), nil, api.ErrTrail)
	expectDecode(t, "\x00", nil, nil, api.ErrTrail)
	expectDecode(t, "\xff", directions(), nil, api.ErrTrail)
	for _, c := range encodedPool() {
		for _, behind := range []string{"\x00", "\x01", "\x02", "\x0c", "\xff", c.s} {
			expectDecode(t, c.s+behind, directions(false), nil, api.ErrTrail)
			expectDecode(t, inverted(c.s)+behind, directions(true), nil, api.ErrTrail)
			expectDecode(t, "\x02"+c.s+behind, directions(false, false), nil, api.ErrTrail)
		}
	}
	expectDecode(t, "\x09\x80\x00\x00\x00\x00\x00\x00\x02\x02", directions(false), nil, api.ErrForm)
	expectDecode(t, "\x04\xff\x00\x00\x02", directions(false), nil, api.ErrForm)
}

// P3.2: as many values are read as there are directions.
func TestDecodeLengths(t *testing.T) {
	expectDecode(t, "\x02\xfd", directions(false, true), values(null, null), api.OK)
	expectDecode(t, "\x02\xfd", directions(false), nil, api.ErrTrail)
	expectDecode(t, "\x02\xfd", directions(false, true, true), nil, api.ErrShort)
	expectDecode(t, "\x02\x02", directions(false, true), nil, api.ErrForm)
	expectDecode(t, "\xfd\xfd", directions(false, true), nil, api.ErrForm)
	expectDecode(t, "", make([]bool, 1<<20), nil, api.ErrShort)
	expectDecode(t, "\x02", make([]bool, math.MaxUint16), nil, api.ErrShort)
}

// P3.2: the first error from left to right is returned.
func TestDecodeFirstError(t *testing.T) {
	badBool := "\x09\x80\x00\x00\x00\x00\x00\x00\x02"
	expectRefused(t, badBool, api.ErrForm)
	// A bad value of the list comes before what follows it.
	expectDecode(t, badBool, directions(false, false), nil, api.ErrForm)
	expectDecode(t, badBool+"\x04", directions(false, false), nil, api.ErrForm)
	// A bad part of a value comes after what follows it within the value.
	expectRefused(t, "\x06\x01"+badBool+"\x01\x04", api.ErrShort)
	expectRefused(t, "\x06\x01"+badBool+"\x01\x04\x00", api.ErrShort)
	expectRefused(t, "\x06\x01"+badBool+"\x01\x0c", api.ErrForm)
	expectRefused(t, "\x05\x01$\x00\x02\x01a", api.ErrShort)
	// A byte that cannot stand in its place comes before a missing one behind it.
	expectRefused(t, "\x06\x01\x0c", api.ErrForm)
	expectRefused(t, "\x06\x01\x04\x00\x01", api.ErrForm)
	expectRefused(t, "\x06\x02", api.ErrForm)
}
