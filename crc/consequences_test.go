package crc

import (
	"math/bits"
	"math/rand/v2"
	"testing"

	"docstore/api"
)

// multiple is the pattern of the whole polynomial of CRC-32C, from its highest power on. It is one bit longer than a burst that Open has to find: a sealed string with these bits inverted is sealed as well.
const multiple = uint64(0x82f63b78)<<1 | 1

// P7.4: from strings to sealed strings and back.
func TestOpenOfSeal(t *testing.T) {
	r := rand.New(rand.NewPCG(7, 10))
	for n := range 600 {
		for _, s := range stringsOf(r, n) {
			expectOpen(t, Seal(s), s, api.OK)
		}
	}
}

// P7.4: from strings that Open accepts, which Seal has not made, to their data and back.
func TestSealOfOpen(t *testing.T) {
	r := rand.New(rand.NewPCG(7, 11))
	for n := 1; n < 60; n++ {
		accepted := sealed(randomString(r, n))
		for range 200 {
			accepted = inverted(accepted, r.IntN(8*n), multiple)
			s, errno := Open(accepted)
			if errno != api.OK {
				t.Fatalf("Open of %q: error %d", accepted, errno)
			}
			expectSeal(t, s, accepted)
		}
	}
}

// P7.4: whatever is opened, it is accepted if Seal of its beginning is that string, and only then.
func TestOpenOfAnything(t *testing.T) {
	r := rand.New(rand.NewPCG(7, 12))
	for range 100000 {
		opened := randomString(r, r.IntN(20))
		if r.IntN(3) == 0 {
			opened = inverted(sealed(opened), r.IntN(8*len(opened)+1), uint64(r.Uint32()>>r.IntN(32)))
		}
		s, errno := Open(opened)
		if errno == api.OK && Seal(s) != opened || errno != api.OK && len(opened) >= 4 && Seal(opened[:len(opened)-4]) == opened {
			t.Errorf("Open of %q is %q, error %d", opened, s, errno)
		}
	}
}

// expectFound checks that Open finds a burst at every position of a sealed string at which there is room for it.
func expectFound(t *testing.T, s string, pattern uint64) {
	t.Helper()
	for at := range 8*len(s) - bits.Len64(pattern) + 1 {
		expectOpen(t, inverted(s, at, pattern), "", api.ErrSum)
	}
}

// P7.5: bursts of every length from 1 to 32 bits at every position, in the data, in the checksum and across their border. Their first and their last bit are inverted.
func TestBursts(t *testing.T) {
	r := rand.New(rand.NewPCG(7, 13))
	for _, n := range []int{0, 1, 2, 3, 4, 5, 8, 13, 40} {
		for _, s := range stringsOf(r, n) {
			expectFound(t, sealed(s), 1)
			for length := 2; length <= 32; length++ {
				ends := uint64(1)<<(length-1) | 1
				all := uint64(1)<<length - 1
				for _, within := range []uint64{0, all, 0x55555555, 0xaaaaaaaa, 0x33333333, multiple, multiple >> 1, r.Uint64(), r.Uint64()} {
					expectFound(t, sealed(s), ends|within&all)
				}
			}
		}
	}
}

// P7.5: all bursts of up to 10 bits.
func TestShortBursts(t *testing.T) {
	for _, s := range []string{"", "a", "\x00\xff", "123456789"} {
		for pattern := uint64(1); pattern < 1<<10; pattern += 2 {
			expectFound(t, sealed(s), pattern)
		}
	}
}

// P7.3, P7.5: the changes that are closest to one that cannot be found, since they differ from the polynomial in one bit. Without its first or its last bit it is a burst.
func TestBurstsNextToPolynomial(t *testing.T) {
	r := rand.New(rand.NewPCG(7, 14))
	for n := 1; n < 20; n++ {
		s := sealed(randomString(r, n))
		for at := range 8 * n {
			for bit := range 33 {
				expectOpen(t, inverted(s, at, multiple^1<<bit), "", api.ErrSum)
			}
		}
	}
}

// xor returns the bitwise XOR of three strings of the same length.
func xor(a, b, c string) string {
	x := make([]byte, len(a))
	for i := range x {
		x[i] = a[i] ^ b[i] ^ c[i]
	}
	return string(x)
}

// P7.6: strings of every length, three equal ones and two equal ones among them.
func TestLinearity(t *testing.T) {
	r := rand.New(rand.NewPCG(7, 15))
	for n := range 300 {
		l := stringsOf(r, n)
		for _, a := range l {
			for range 4 {
				b, c := l[r.IntN(len(l))], randomString(r, n)
				expectSum(t, xor(a, b, c), Sum(a)^Sum(b)^Sum(c))
				expectSum(t, xor(a, b, b), Sum(a))
			}
			expectSum(t, xor(a, a, a), Sum(a))
		}
	}
}

// P7.6: the same number for all sealed strings, that of four bytes 0, and also for those that Seal has not made.
func TestSumOfSealed(t *testing.T) {
	const residue = 0x48674bc7
	r := rand.New(rand.NewPCG(7, 16))
	for n := range 300 {
		for _, s := range stringsOf(r, n) {
			expectSum(t, Seal(s), residue)
			expectSum(t, sealed(s), residue)
			expectSum(t, Seal(Seal(s)), residue)
			if n > 0 {
				expectSum(t, inverted(sealed(s), r.IntN(8*n), multiple), residue)
			}
		}
	}
}
