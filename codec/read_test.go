package codec

import (
	"math"
	"strings"
	"testing"

	"docstore/api"
	"docstore/sample"
)

// P2.4: the offset comes before every other error.
func TestReadOffsets(t *testing.T) {
	for _, at := range []int{-1, -2, 2, 3, math.MinInt, math.MaxInt} {
		expectRead(t, "\x02", at, api.Value{}, 0, api.ErrArg)
		expectRead(t, "\x00", at, api.Value{}, 0, api.ErrArg)
	}
	expectRead(t, "", 1, api.Value{}, 0, api.ErrArg)
	expectRead(t, "", 0, api.Value{}, 0, api.ErrShort)
	expectRead(t, "\x02", 1, api.Value{}, 0, api.ErrShort)
	expectRead(t, "\x03\x02\xff", 0, num(1), 2, api.OK)
	expectRead(t, "\x02\x03\x02\x02", 0, null, 1, api.OK)
	expectRead(t, "\x02\x03\x02\x02", 1, num(1), 3, api.OK)
	expectRead(t, "\x02\x03\x02\x02", 2, null, 3, api.OK)
	expectRead(t, "\x02\x03\x02\x02", 3, null, 4, api.OK)
}

// P2.4: kinds that are not from 1 to 11.
func TestReadKinds(t *testing.T) {
	expectRefused(t, "", api.ErrShort)
	for kind := range 0x100 {
		s := string([]byte{byte(kind)})
		if kind >= 1 && kind <= 11 {
			if _, _, errno := Read(s, 0); errno == api.ErrForm {
				t.Errorf("the kind %d is refused", kind)
			}
			continue
		}
		expectRefused(t, s, api.ErrForm)
		expectRefused(t, s+"\x00\x00", api.ErrForm)
		expectRefused(t, "\x06\x02"+s, api.ErrForm)
		expectRefused(t, "\x05\x02\x02a"+s, api.ErrForm)
	}
}

// P2.4: the integers within values have the errors of ReadNum, and those that must not be negative have ErrForm.
func TestReadIntegers(t *testing.T) {
	for _, before := range []string{"\x03", "\x0a", "\x04", "\x07", "\x06", "\x05", "\x05\x02", "\x06\x02\x03", "\x05\x02\x02a\x0a"} {
		expectRefused(t, before, api.ErrShort)
		expectRefused(t, before+"\x80", api.ErrShort)
		expectRefused(t, before+strings.Repeat("\xff", 9), api.ErrShort)
		expectRefused(t, before+"\x80\x00", api.ErrForm)
		expectRefused(t, before+"\x81\x00\xff", api.ErrForm)
		expectRefused(t, before+strings.Repeat("\xff", 9)+"\x02", api.ErrForm)
		expectRefused(t, before+strings.Repeat("\xff", 9)+"\x81", api.ErrForm)
	}
	for _, before := range []string{"\x0a", "\x04", "\x07", "\x06", "\x05", "\x05\x02"} {
		expectRefused(t, before+"\x01", api.ErrForm)
		expectRefused(t, before+"\x03", api.ErrForm)
		expectRefused(t, before+Num(-5000), api.ErrForm)
		expectRefused(t, before+Num(math.MinInt), api.ErrForm)
	}
}

// P2.4: booleans and identifiers.
func TestReadBooleansAndIDs(t *testing.T) {
	expectRefused(t, "\x09", api.ErrShort)
	for b := 2; b <= 0xff; b++ {
		expectRefused(t, "\x09"+string([]byte{byte(b)}), api.ErrForm)
	}
	for n := range 12 {
		expectRefused(t, "\x08"+strings.Repeat("\xff", n), api.ErrShort)
	}
}

// P2.4: the number of bytes of a text is checked before they are, and their number before what they are.
func TestReadTexts(t *testing.T) {
	for _, kind := range []string{"\x04", "\x07"} {
		expectRefused(t, kind+Num(api.MaxText+1), api.ErrLimit)
		expectRefused(t, kind+Num(api.MaxText+1)+strings.Repeat("a", api.MaxText+1), api.ErrLimit)
		expectRefused(t, kind+Num(math.MaxInt)+"\xff", api.ErrLimit)
		expectRefused(t, kind+Num(api.MaxText), api.ErrShort)
		expectRefused(t, kind+Num(api.MaxText)+strings.Repeat("a", api.MaxText-1), api.ErrShort)
		expectRefused(t, kind+"\x04\xff", api.ErrShort)
		expectRefused(t, kind+"\x02", api.ErrShort)
	}
	for _, s := range []string{"\xff", "\x80", "a\xc3", "\xc0\x80", "\xe0\x80\x80", "\xed\xa0\x80", "\xf4\x90\x80\x80", "\xf8\x88\x80\x80\x80"} {
		expectRefused(t, "\x04"+Num(len(s))+s, api.ErrForm)
		expectAccepted(t, "\x07"+Num(len(s))+s, octets(s))
	}
	expectRefused(t, "\x04\x02\xc3\xa9", api.ErrForm)
}

// P2.4: the number of bytes of a name is checked before they are, and their number before what they are.
func TestReadNames(t *testing.T) {
	for _, n := range []int{0, api.MaxName + 1, api.MaxText + 1, math.MaxInt, -1} {
		expectRefused(t, "\x05\x02"+Num(n), api.ErrForm)
		expectRefused(t, "\x05\x02"+Num(n)+strings.Repeat("a", 50)+"\x02", api.ErrForm)
	}
	expectRefused(t, "\x05\x02"+Num(api.MaxName), api.ErrShort)
	expectRefused(t, "\x05\x02"+Num(api.MaxName)+strings.Repeat("$", api.MaxName-1), api.ErrShort)
	expectRefused(t, "\x05\x02\x02a", api.ErrShort)
	for b := range 0x100 {
		good := b >= 0x21 && b <= 0x7e && b != '.'
		for _, name := range []string{string([]byte{byte(b)}), string([]byte{'a', byte(b), 'a'})} {
			s := "\x05\x02" + Num(len(name)) + name
			if good && name != "$" {
				expectAccepted(t, s+"\x02", doc(field(name, null)))
			} else {
				expectRefused(t, s+"\x02", api.ErrForm)
				expectRefused(t, s, api.ErrForm)
			}
		}
	}
	expectRefused(t, "\x05\x02\x04$a\x02", api.ErrForm)
	expectRefused(t, "\x05\x02\x04\u00e9\x02", api.ErrForm)
}

// P2.4: a name that an earlier field of the same document has is refused before the value behind it.
func TestReadEqualNames(t *testing.T) {
	expectRefused(t, "\x05\x04\x02a\x02\x02a\x02", api.ErrForm)
	expectRefused(t, "\x05\x04\x02a\x02\x02a", api.ErrForm)
	expectRefused(t, "\x05\x06\x02a\x02\x02b\x02\x02a\x02", api.ErrForm)
	expectRefused(t, "\x05\x06\x02a\x02\x02b\x02\x02b\x00", api.ErrForm)
	expectAccepted(t, "\x05\x04\x02a\x05\x02\x02a\x02\x02A\x02", doc(field("a", doc(field("a", null))), field("A", null)))
	expectAccepted(t, "\x06\x04\x05\x02\x02a\x02\x05\x02\x02a\x02", list(doc(field("a", null)), doc(field("a", null))))
}

// P2.4: a value of a level above MaxDepth is refused before its Kind, even if it is missing or malformed.
func TestReadLevels(t *testing.T) {
	for _, one := range []string{"\x06\x02", "\x05\x02\x02a"} {
		most := strings.Repeat(one, api.MaxDepth)
		for _, s := range []string{"", "\x02", "\x00", "\xff", one} {
			expectRefused(t, most+s, api.ErrLimit)
		}
		expectRefused(t, strings.Repeat(one, api.MaxDepth-1), api.ErrShort)
		expectRefused(t, strings.Repeat(one, api.MaxDepth-1)+"\x00", api.ErrForm)
		expectRefused(t, strings.Repeat(one, 1<<15), api.ErrLimit)
	}
	// The level counts, not the number of lists that have begun.
	wide := list()
	for range api.MaxDepth + 1 {
		wide.List = append(wide.List, list(list()))
	}
	expectAccepted(t, encode(t, wide), wide)
	// A value of the last level may be behind another one of it.
	deep := sample.NestedLists(api.MaxDepth-1, list(null, num(1), list(), doc()))
	expectAccepted(t, encode(t, deep), deep)
}

// P2.4: a value behind MaxNodes others is refused before its Kind, but not before the name of its field.
func TestReadNodes(t *testing.T) {
	most := strings.Repeat("\x02", api.MaxNodes-1)
	expectAccepted(t, "\x06"+Num(api.MaxNodes-1)+most, sample.Nulls(api.MaxNodes-1))
	for _, s := range []string{"", "\x02", "\x00", "\x02\x02"} {
		expectRefused(t, "\x06"+Num(api.MaxNodes)+most+s, api.ErrLimit)
		expectRefused(t, "\x06\x04\x06"+Num(api.MaxNodes-2)+most[1:]+s, api.ErrLimit)
	}
	expectRefused(t, "\x06"+Num(api.MaxNodes)+most[1:], api.ErrShort)
	expectRefused(t, "\x06"+Num(api.MaxNodes)+most[1:]+"\x0c", api.ErrForm)

	behind := "\x05\x04\x02a\x06" + Num(api.MaxNodes-2) + most[1:]
	expectRefused(t, behind, api.ErrShort)
	expectRefused(t, behind+"\x04b", api.ErrShort)
	expectRefused(t, behind+"\x02$", api.ErrForm)
	expectRefused(t, behind+"\x02a", api.ErrForm)
	expectRefused(t, behind+"\x02b", api.ErrLimit)
	expectRefused(t, behind+"\x02b\x02", api.ErrLimit)
}

// P2.4: a number of elements or fields is no claim on memory or time before they are there.
func TestReadGreatNumbers(t *testing.T) {
	for _, n := range []int{1 << 20, 1 << 40, math.MaxInt} {
		expectRefused(t, "\x06"+Num(n), api.ErrShort)
		expectRefused(t, "\x05"+Num(n), api.ErrShort)
		expectRefused(t, "\x06"+Num(n)+"\x02\x00", api.ErrForm)
		expectRefused(t, "\x05"+Num(n)+"\x02a\x02\x02a", api.ErrForm)
		expectRefused(t, "\x06"+Num(n)+strings.Repeat("\x02", api.MaxNodes), api.ErrLimit)
	}
}

// P2.4: the first error from left to right is returned.
func TestReadFirstError(t *testing.T) {
	expectRefused(t, "\x06\x06\x09\x02\x04"+Num(api.MaxText+1), api.ErrForm)
	expectRefused(t, "\x06\x06\x04"+Num(api.MaxText+1)+"\x09\x02", api.ErrLimit)
	expectRefused(t, "\x06\x06\x02\x04\x0a\xff", api.ErrShort)
	expectRefused(t, "\x05\x04\x02a\x0a\x01\x02a\x02", api.ErrForm)
	expectRefused(t, "\x05\x04\x02a"+strings.Repeat("\x06\x02", api.MaxDepth-1)+"\x02", api.ErrLimit)
	expectRefused(t, "\x05\x04\x02a\x04"+Num(api.MaxText+1)+"\x02a\x02", api.ErrLimit)
}

// P2.5: bytes behind an encoding are the last error.
func TestDecodeTrail(t *testing.T) {
	expectDecode(t, "\x03\x02\xff", api.Value{}, api.ErrTrail)
	for _, c := range encodedPool() {
		for _, behind := range []string{"\x00", "\x02", "\x80", "\xff", c.s} {
			expectDecode(t, c.s+behind, api.Value{}, api.ErrTrail)
		}
	}
	expectDecode(t, "\x09\x02\x02", api.Value{}, api.ErrForm)
	expectDecode(t, "\x04"+Num(api.MaxText+1)+"\x02", api.Value{}, api.ErrLimit)
}
