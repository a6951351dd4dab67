package ident

import (
	"strings"
	"testing"

	"docstore/api"
	"docstore/sample"
)

func expectSplit(t *testing.T, v api.Value, want triple, wantErrno api.Errno) {
	t.Helper()
	if seconds, node, counter, errno := Split(v); (triple{seconds, node, counter}) != want || errno != wantErrno {
		t.Errorf("Split of %s: %d, %d, %d, error %d; expected %d, error %d", sample.Show(v), seconds, node, counter, errno, want, wantErrno)
	}
}

func expectText(t *testing.T, v api.Value, want string, wantErrno api.Errno) {
	t.Helper()
	if s, errno := Text(v); s != want || errno != wantErrno {
		t.Errorf("Text of %s: %q, error %d; expected %q, error %d", sample.Show(v), s, errno, want, wantErrno)
	}
}

func expectParse(t *testing.T, s string, want api.Value, wantErrno api.Errno) {
	t.Helper()
	if v, errno := Parse(s); sample.Show(v) != sample.Show(want) || errno != wantErrno {
		t.Errorf("Parse of %q: %s, error %d; expected %s, error %d", s, sample.Show(v), errno, sample.Show(want), wantErrno)
	}
}

// P6.2, P6.3, P6.4: identifiers with numbers and texts that are written out.
func TestTexts(t *testing.T) {
	for _, c := range writtenPool() {
		expectSplit(t, c.v, c.n, api.OK)
		expectText(t, c.v, c.digits, api.OK)
		expectParse(t, c.digits, c.v, api.OK)
	}
}

// P6.2, P6.3: an empty list in a field that the kind does not use is a nil list (R5), so that the value is valid.
func TestEmptyFields(t *testing.T) {
	for _, c := range writtenPool() {
		c.v.List, c.v.Doc = []api.Value{}, []api.Field{}
		expectSplit(t, c.v, c.n, api.OK)
		expectText(t, c.v, c.digits, api.OK)
	}
}

// P6.2, P6.3: values of every other kind, and values of KindID that are not valid.
func TestNoIdentifiers(t *testing.T) {
	for _, v := range append(otherKinds(), notValid()...) {
		expectSplit(t, v, triple{}, api.ErrKind)
		expectText(t, v, "", api.ErrKind)
	}
}

// P6.3, P6.4: every byte at every place is two digits, in lower case.
func TestBytes(t *testing.T) {
	const digits = "0123456789abcdef"
	for i := range idBytes {
		for high := range digits {
			for low := range digits {
				v := id("0123456789ab"[:i] + string([]byte{byte(16*high + low)}) + "0123456789ab"[i+1:])
				s := "303132333435363738396162"
				s = s[:2*i] + digits[high:high+1] + digits[low:low+1] + s[2*i+2:]
				expectText(t, v, s, api.OK)
				expectParse(t, s, v, api.OK)
			}
		}
	}
}

// P6.4: 24 times the same byte, and every byte at every place among digits.
func TestParseEveryByte(t *testing.T) {
	const digits = "0123456789abcdef00ff100a"
	for b := range 0x100 {
		c := string([]byte{byte(b)})
		isDigit := b >= '0' && b <= '9' || b >= 'a' && b <= 'f'
		for i := range len(digits) {
			s := digits[:i] + c + digits[i+1:]
			if v, errno := Parse(s); (errno == api.OK) != isDigit {
				t.Errorf("Parse of %q: %s, error %d", s, sample.Show(v), errno)
			}
			if !isDigit {
				expectParse(t, s, api.Value{}, api.ErrForm)
			}
		}
		if same := strings.Repeat(c, len(digits)); !isDigit {
			expectParse(t, same, api.Value{}, api.ErrForm)
		} else if v, errno := Parse(same); errno != api.OK || v.Text != strings.Repeat(v.Text[:1], idBytes) {
			t.Errorf("Parse of %q: %s, error %d", same, sample.Show(v), errno)
		}
	}
}

// P6.4: fewer and more than 24 bytes.
func TestParseLengths(t *testing.T) {
	const digits = "0123456789abcdef00ff100a0123456789abcdef00ff100a"
	for n := range len(digits) + 1 {
		if n == 24 {
			continue
		}
		expectParse(t, digits[:n], api.Value{}, api.ErrForm)
		expectParse(t, strings.Repeat("0", n), api.Value{}, api.ErrForm)
		expectParse(t, strings.Repeat("\u00e9", n), api.Value{}, api.ErrForm)
	}
	expectParse(t, strings.Repeat("0", 1<<20), api.Value{}, api.ErrForm)
	for _, more := range []string{"0", "00", " ", "\n", "\x00", "g", "A"} {
		expectParse(t, digits[:24]+more, api.Value{}, api.ErrForm)
		expectParse(t, more+digits[:24], api.Value{}, api.ErrForm)
	}
}

// P6.4: texts of 24 bytes that are digits in another notation.
func TestParseForms(t *testing.T) {
	for _, s := range []string{
		"AAAAAAAAAAAAAAAAAAAAAAAA", "0123456789ABCDEF00FF100A", "0123456789abcdef00ff100A", "F23456789abcdef00ff100a0",
		"0x0000010000000200000102", "0X0000010000000200000102", "+00000010000000200000102", "-00000010000000200000102",
		"00000001-0000002-0000102", "00000001_0000002_0000102", "00000001 0000002 0000102", "000000010000000200000102"[:23] + "h",
		" 00000010000000200000102", "00000001000000020000010 ", "00000001000000020000010\n", "00000001000000020000010\x00",
		`"0000010000000200000102"`, "0000000100000002000001.2", "000000010000000200000.e2",
		"\uff10\uff10\uff10\uff10\uff10\uff10\uff10\uff10", "\u0660\u0660\u0660\u0660\u0660\u0660\u0660\u0660\u0660\u0660\u0660\u0660", "0000000000000000000000\u00e9",
	} {
		if len(s) != idDigits {
			t.Errorf("%q has %d bytes", s, len(s))
		}
		expectParse(t, s, api.Value{}, api.ErrForm)
	}
}

// R5: Split and Text do not change their argument.
func TestArgumentsAreUnchanged(t *testing.T) {
	for _, v := range append(otherKinds(), notValid()...) {
		before := sample.Show(v)
		Split(v)
		Text(v)
		if sample.Show(v) != before {
			t.Errorf("the argument %s became %s", before, sample.Show(v))
		}
	}
}
