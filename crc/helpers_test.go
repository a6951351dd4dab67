package crc

import (
	"hash/crc32"
	"math/rand/v2"
	"strings"
	"testing"

	"docstore/api"
)

// defined returns the CRC-32C as the chapter defines it, carried out bit by bit: each bit of the register is a bool of its own, the least significant one first.
func defined(s string) uint32 {
	var register, polynomial [32]bool
	for i := range register {
		register[i] = true
		polynomial[i] = 0x82f63b78>>i&1 == 1
	}
	for i := range len(s) {
		for bit := range 8 {
			register[bit] = register[bit] != (s[i]>>bit&1 == 1)
		}
		for range 8 {
			out := register[0]
			copy(register[:31], register[1:])
			register[31] = false
			for bit := range register {
				register[bit] = register[bit] != (out && polynomial[bit])
			}
		}
	}
	n := uint32(0)
	for i := range register {
		if !register[i] {
			n |= 1 << i
		}
	}
	return n
}

// library returns the CRC-32C as Go's library computes it, which is fast.
func library(s string) uint32 {
	return crc32.Checksum([]byte(s), crc32.MakeTable(crc32.Castagnoli))
}

// sealed returns a sealed string, without the functions of the package.
func sealed(s string) string {
	n := defined(s)
	return s + string([]byte{byte(n % 256), byte(n / 256 % 256), byte(n / 256 / 256 % 256), byte(n / 256 / 256 / 256)})
}

func randomString(r *rand.Rand, n int) string {
	b := make([]byte, n)
	for i := range b {
		b[i] = byte(r.UintN(0x100))
	}
	return string(b)
}

// stringsOf returns strings of a length: the same byte again and again, ascending bytes, and any bytes.
func stringsOf(r *rand.Rand, n int) []string {
	var l []string
	for _, c := range []string{"\x00", "\xff", "\x01", "\x80", "a"} {
		l = append(l, strings.Repeat(c, n))
	}
	ascending := make([]byte, n)
	for i := range ascending {
		ascending[i] = byte(i)
	}
	return append(l, string(ascending), randomString(r, n), randomString(r, n))
}

// inverted returns a string with bits inverted: those at a position and behind it for which the pattern has a 1, its least significant bit first.
func inverted(s string, at int, pattern uint64) string {
	b := []byte(s)
	for ; pattern != 0; pattern >>= 1 {
		b[at/8] ^= byte(pattern&1) << (at % 8)
		at++
	}
	return string(b)
}

func expectSum(t *testing.T, s string, want uint32) {
	t.Helper()
	if got := Sum(s); got != want {
		t.Errorf("Sum of %q is %#x; expected %#x", s, got, want)
	}
}

func expectSeal(t *testing.T, s, want string) {
	t.Helper()
	if got := Seal(s); got != want {
		t.Errorf("Seal of %q is %q; expected %q", s, got, want)
	}
}

func expectOpen(t *testing.T, s, want string, wantErrno api.Errno) {
	t.Helper()
	if got, errno := Open(s); got != want || errno != wantErrno {
		t.Errorf("Open of %q is %q, error %d; expected %q, error %d", s, got, errno, want, wantErrno)
	}
}

// What the tests compare with is what its names say.
func TestHelpers(t *testing.T) {
	r := rand.New(rand.NewPCG(7, 0))
	for n := range 100 {
		s := randomString(r, n)
		if len(s) != n || defined(s) != library(s) {
			t.Errorf("the definition and the library differ for %q", s)
		}
	}
	if s := sealed("123456789"); s != "123456789\x83\x92\x06\xe3" {
		t.Errorf("a sealed string is %q", s)
	}
	if s := inverted("\x00\x00\x00", 6, 0b1011); s != "\xc0\x02\x00" {
		t.Errorf("bits 6, 7 and 9 of three bytes 0 inverted: %q", s)
	}
}
