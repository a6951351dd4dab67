package crc

import (
	"math/rand/v2"
	"strings"
	"testing"
)

// P7.1: the examples of the document, and checksums that RFC 3720 and others write out.
func TestSumWritten(t *testing.T) {
	up, down := make([]byte, 32), make([]byte, 32)
	for i := range 32 {
		up[i], down[i] = byte(i), byte(31-i)
	}
	for _, c := range []struct {
		s    string
		want uint32
	}{
		{"", 0},
		{"123456789", 0xe3069283},
		{"a", 0xc1d04330},
		{"\x00", 0x527d5351},
		{"\xff", 0xff000000},
		{"\x00\x00\x00\x00", 0x48674bc7},
		{"\xff\xff\xff\xff", 0xffffffff},
		{strings.Repeat("\x00", 32), 0x8a9136aa},
		{strings.Repeat("\xff", 32), 0x62a8ab43},
		{string(up), 0x46dd794e},
		{string(down), 0x113fdb5c},
		{"The quick brown fox jumps over the lazy dog", 0x22620404},
	} {
		expectSum(t, c.s, c.want)
	}
}

// P7.1: every single byte, and every two bytes.
func TestSumOfBytes(t *testing.T) {
	for i := range 0x100 {
		first := string([]byte{byte(i)})
		expectSum(t, first, defined(first))
		for j := range 0x100 {
			second := first + string([]byte{byte(j)})
			expectSum(t, second, library(second))
		}
	}
}

// P7.1: strings of every length up to some hundred bytes.
func TestSumOfLengths(t *testing.T) {
	r := rand.New(rand.NewPCG(7, 1))
	for n := range 600 {
		for _, s := range stringsOf(r, n) {
			expectSum(t, s, defined(s))
		}
	}
}

// P7.1: every bit of a string counts, whatever the others are.
func TestSumOfBits(t *testing.T) {
	r := rand.New(rand.NewPCG(7, 2))
	for n := 1; n < 40; n++ {
		for _, s := range stringsOf(r, n) {
			for at := range 8 * n {
				other := inverted(s, at, 1)
				expectSum(t, other, library(other))
			}
		}
	}
}

// P7.1, R1: long strings, which are not texts.
func TestSumOfLongStrings(t *testing.T) {
	r := rand.New(rand.NewPCG(7, 3))
	for _, n := range []int{4095, 4096, 4097, 1<<16 - 1, 1 << 16, 1<<16 + 1, 1<<20 + 3} {
		for _, s := range stringsOf(r, n) {
			if got, want := Sum(s), library(s); got != want {
				t.Errorf("Sum of %d bytes is %#x; expected %#x", n, got, want)
			}
		}
	}
}

// P7.1: the same string has the same checksum in every call.
func TestSumAgain(t *testing.T) {
	for range 3 {
		for _, s := range []string{"123456789", "", "\x00", "123456789"} {
			expectSum(t, s, defined(s))
		}
	}
}
