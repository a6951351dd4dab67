package ident

import (
	"math"
	"strings"
	"testing"

	"docstore/api"
	"docstore/sample"
)

func expectNew(t *testing.T, n triple, want api.Value, wantErrno api.Errno) {
	t.Helper()
	if v, errno := New(n[0], n[1], n[2]); sample.Show(v) != sample.Show(want) || errno != wantErrno {
		t.Errorf("New of %d: %s, error %d; expected %s, error %d", n, sample.Show(v), errno, sample.Show(want), wantErrno)
	}
}

// P6.1: identifiers with bytes that are written out.
func TestNew(t *testing.T) {
	for _, c := range writtenPool() {
		expectNew(t, c.n, c.v, api.OK)
	}
}

// P6.1, P6.2: each number has 4 bytes at its place, the most significant one first, whatever the other bytes are.
func TestNewBytes(t *testing.T) {
	for _, rest := range []int{0, 0x5a, 0xff} {
		others := rest * 0x01010101
		for i := range idBytes {
			for b := range 0x100 {
				bytes := []byte(strings.Repeat(string([]byte{byte(rest)}), idBytes))
				bytes[i] = byte(b)
				n := triple{others, others, others}
				n[i/4] += (b - rest) << (24 - i%4*8)
				expectNew(t, n, id(string(bytes)), api.OK)
				expectSplit(t, id(string(bytes)), n, api.OK)
			}
		}
	}
}

// P6.1: each number at and next to the limits, alone and together with others that are out of their ranges.
func TestNewLimits(t *testing.T) {
	for place := range 3 {
		for _, rest := range []triple{{0, 0, 0}, {1, 2, 258}, {math.MaxUint32, math.MaxUint32, math.MaxUint32}} {
			n := rest
			for _, n[place] = range inRange() {
				made(t, n)
			}
			for _, n[place] = range outOfRange() {
				expectNew(t, n, api.Value{}, api.ErrArg)
			}
		}
	}
	numbers := append(outOfRange(), 0, math.MaxUint32)
	for _, out := range outOfRange() {
		for _, a := range numbers {
			for _, b := range numbers {
				expectNew(t, triple{out, a, b}, api.Value{}, api.ErrArg)
				expectNew(t, triple{a, out, b}, api.Value{}, api.ErrArg)
				expectNew(t, triple{a, b, out}, api.Value{}, api.ErrArg)
			}
		}
	}
}
