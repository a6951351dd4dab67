package crc

import (
	"math/rand/v2"
	"strings"
	"testing"
	"unsafe"

	"docstore/api"
)

// liesWithin reports whether a part is memory of a string.
func liesWithin(part, s string) bool {
	at, from := uintptr(unsafe.Pointer(unsafe.StringData(part))), uintptr(unsafe.Pointer(unsafe.StringData(s)))
	return part != "" && from <= at && at < from+uintptr(len(s))
}

// sumOf returns the last four bytes of a sealed string.
func sumOf(s string) string {
	return sealed(s)[len(s):]
}

// P7.2, P7.3: the examples of the document, and others that are written out.
func TestSealWritten(t *testing.T) {
	for _, c := range []struct{ s, sealed string }{
		{"", "\x00\x00\x00\x00"},
		{"123456789", "123456789\x83\x92\x06\xe3"},
		{"a", "a\x30\x43\xd0\xc1"},
		{"\x00", "\x00\x51\x53\x7d\x52"},
		{"\xff", "\xff\x00\x00\x00\xff"},
		{"\x00\x00\x00\x00", "\x00\x00\x00\x00\xc7\x4b\x67\x48"},
	} {
		expectSeal(t, c.s, c.sealed)
		expectOpen(t, c.sealed, c.s, api.OK)
	}
}

// P7.2, P7.3: strings of every length up to some hundred bytes.
func TestSealOfLengths(t *testing.T) {
	r := rand.New(rand.NewPCG(7, 4))
	for n := range 300 {
		for _, s := range stringsOf(r, n) {
			expectSeal(t, s, sealed(s))
			expectOpen(t, sealed(s), s, api.OK)
		}
	}
}

// P7.2, P7.3: every single byte, and sealed strings that are sealed again.
func TestSealOfBytes(t *testing.T) {
	for i := range 0x100 {
		s := string([]byte{byte(i)})
		for range 5 {
			expectSeal(t, s, sealed(s))
			expectOpen(t, sealed(s), s, api.OK)
			s = sealed(s)
		}
	}
}

// P7.3: strings with fewer than four bytes, also those with which a sealed string begins or ends.
func TestOpenErrShort(t *testing.T) {
	r := rand.New(rand.NewPCG(7, 5))
	expectOpen(t, "abc", "", api.ErrShort)
	for n := range 4 {
		for _, s := range append(stringsOf(r, n), sealed("")[:n], sealed("123456789")[:n], sealed("123456789")[13-n:]) {
			expectOpen(t, s, "", api.ErrShort)
		}
	}
	for i := range 0x10000 {
		s := string([]byte{byte(i >> 8), byte(i), byte(i)})
		for n := range 4 {
			expectOpen(t, s[:n], "", api.ErrShort)
		}
	}
}

// P7.3: of the strings with four bytes, only the one that seals the empty string is accepted.
func TestOpenFourBytes(t *testing.T) {
	expectOpen(t, "\x00\x00\x00\x00", "", api.OK)
	expectOpen(t, "\x00\x00\x00\x00\x00", "", api.ErrSum)
	for _, s := range []string{"abcd", "\xff\xff\xff\xff", "1234", "    "} {
		expectOpen(t, s, "", api.ErrSum)
	}
	for at := range 4 {
		for i := 1; i < 0x100; i++ {
			b := make([]byte, 4)
			b[at] = byte(i)
			expectOpen(t, string(b), "", api.ErrSum)
		}
	}
}

// P7.3: a byte is changed, in the data or in the checksum.
func TestOpenChangedByte(t *testing.T) {
	r := rand.New(rand.NewPCG(7, 6))
	for _, n := range []int{0, 1, 2, 3, 4, 5, 9, 31, 64} {
		for _, s := range stringsOf(r, n) {
			b := []byte(sealed(s))
			for at, was := range b {
				for i := 1; i < 0x100; i++ {
					b[at] = was ^ byte(i)
					expectOpen(t, string(b), "", api.ErrSum)
				}
				b[at] = was
			}
			expectOpen(t, string(b), s, api.OK)
		}
	}
}

// P7.3: four bytes that are not the checksum of the bytes before them, but resemble it.
func TestOpenOtherChecksums(t *testing.T) {
	r := rand.New(rand.NewPCG(7, 7))
	for n := range 50 {
		s := randomString(r, n+1)
		sum := sumOf(s)
		register := ^defined(s)
		for _, other := range []string{
			sum[3:] + sum[2:3] + sum[1:2] + sum[:1], sum[2:] + sum[:2], sum[1:] + sum[:1], // in another order
			string([]byte{byte(register), byte(register >> 8), byte(register >> 16), byte(register >> 24)}), // not inverted
			sumOf(s[1:]), sumOf(s[:n]), sumOf(s + "\x00"), sumOf("\x00" + s), sumOf(""), sumOf(s + sum), // of another string
		} {
			if other != sum {
				expectOpen(t, s+other, "", api.ErrSum)
			}
		}
		expectOpen(t, sum+s, "", api.ErrSum)
	}
}

// P7.3: a sealed string with a byte more or less, at either end.
func TestOpenMoreOrLess(t *testing.T) {
	r := rand.New(rand.NewPCG(7, 8))
	for n := 1; n < 100; n++ {
		s := sealed(randomString(r, n))
		for _, other := range []string{s[1:], s[:n+3], s + "\x00", "\x00" + s, s + "\xff", "\xff" + s, s + "a", "a" + s} {
			expectOpen(t, other, "", api.ErrSum)
		}
	}
}

// P7.2, P7.3, R1: long strings.
func TestSealOfLongStrings(t *testing.T) {
	r := rand.New(rand.NewPCG(7, 9))
	for _, n := range []int{1 << 12, 1 << 16, 1<<20 + 1} {
		s := randomString(r, n)
		long := Seal(s)
		if long != sealed(s) {
			t.Errorf("Seal of %d bytes is wrong", n)
		}
		if back, errno := Open(long); back != s || errno != api.OK {
			t.Errorf("Open of %d sealed bytes: %d bytes, error %d", n, len(back), errno)
		}
		if back, errno := Open(inverted(long, 4*n, 1)); back != "" || errno != api.ErrSum {
			t.Errorf("Open of %d sealed bytes with a bit inverted: %d bytes, error %d", n, len(back), errno)
		}
	}
}

// R5: a result is no part of an argument.
func TestMemory(t *testing.T) {
	for _, n := range []int{0, 1, 9, 100, 5000} {
		s := strings.Repeat("a", n)
		long := Seal(s)
		back, _ := Open(long)
		again, _ := Open(long)
		if liesWithin(long, s) || liesWithin(back, long) || liesWithin(back, again) {
			t.Errorf("memory of %d bytes occurs twice", n)
		}
	}
}
