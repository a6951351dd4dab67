package ident

import (
	"math/rand/v2"
	"slices"
	"testing"

	"docstore/api"
	"docstore/sample"
	"docstore/value"
)

// randomNumber returns a number of any size, often one next to a power of 2.
func randomNumber(r *rand.Rand) int {
	n := int(r.Uint32()) >> r.IntN(32)
	if r.IntN(3) == 0 {
		n = int(uint32(1<<r.IntN(33) - 1 + r.IntN(2)))
	}
	return n
}

func randomTriple(r *rand.Rand) triple {
	return triple{randomNumber(r), randomNumber(r), randomNumber(r)}
}

// expectBothWays checks the consequences for the identifier of three numbers.
func expectBothWays(t *testing.T, n triple) {
	t.Helper()
	v := made(t, n)
	if v.Kind != api.KindID || !value.Valid(v) {
		t.Errorf("New of %d: %s is no identifier", n, sample.Show(v))
	}
	expectSplit(t, v, n, api.OK)
	s, errno := Text(v)
	if errno != api.OK {
		t.Errorf("Text of %s: error %d", sample.Show(v), errno)
	}
	expectParse(t, s, v, api.OK)
}

// P6.7: from numbers to identifiers and back, and from identifiers to texts and back.
func TestBothWaysFromNumbers(t *testing.T) {
	for _, seconds := range inRange() {
		for _, node := range inRange() {
			for _, counter := range inRange() {
				expectBothWays(t, triple{seconds, node, counter})
			}
		}
	}
	r := rand.New(rand.NewPCG(6, 7))
	for range 20000 {
		expectBothWays(t, randomTriple(r))
	}
}

// P6.7: from identifiers of any bytes to numbers and back, and from texts of any digits to identifiers and back.
func TestBothWaysFromBytes(t *testing.T) {
	r := rand.New(rand.NewPCG(6, 8))
	for range 20000 {
		bytes, digits := make([]byte, 12), make([]byte, 24)
		for i := range bytes {
			bytes[i] = byte(r.UintN(0x100))
		}
		for i := range digits {
			digits[i] = "0123456789abcdef"[r.IntN(16)]
		}
		seconds, node, counter, errno := Split(id(string(bytes)))
		if errno != api.OK {
			t.Fatalf("Split of %x: error %d", bytes, errno)
		}
		expectNew(t, triple{seconds, node, counter}, id(string(bytes)), api.OK)
		v, errno := Parse(string(digits))
		if errno != api.OK {
			t.Fatalf("Parse of %s: error %d", digits, errno)
		}
		expectText(t, v, string(digits), api.OK)
	}
}

func expectOrder(t *testing.T, a, b triple) {
	t.Helper()
	if got, want := value.Compare(made(t, a), made(t, b)), slices.Compare(a[:], b[:]); got != want {
		t.Errorf("the identifiers of %d and %d compare as %d; expected %d", a, b, got, want)
	}
}

// P6.8: times, then nodes, then counters of every size decide the order.
func TestOrder(t *testing.T) {
	for _, x := range inRange() {
		for _, y := range inRange() {
			for _, rest := range []int{0, 0x1234567, maxNumber} {
				expectOrder(t, triple{x, rest, rest}, triple{y, rest, rest})
				expectOrder(t, triple{rest, x, rest}, triple{rest, y, rest})
				expectOrder(t, triple{rest, rest, x}, triple{rest, rest, y})
				expectOrder(t, triple{x, y, rest}, triple{y, x, rest})
				expectOrder(t, triple{x, rest, y}, triple{y, rest, x})
				expectOrder(t, triple{rest, x, y}, triple{rest, y, x})
			}
		}
	}
	r := rand.New(rand.NewPCG(6, 9))
	for range 20000 {
		a, b := randomTriple(r), randomTriple(r)
		expectOrder(t, a, b)
		copy(b[:r.IntN(4)], a[:]) // so that they differ late
		expectOrder(t, a, b)
	}
}

// P6.8: the identifiers of one source are distinct, whatever the times are.
func TestDistinct(t *testing.T) {
	r := rand.New(rand.NewPCG(6, 10))
	for _, from := range []int{0, 0xfffe, 1<<32 - 2000} {
		s := sourceAt(t, 7, from)
		seen := map[string]bool{}
		for range 2000 {
			seconds := []int{0, 9, maxNumber, randomNumber(r)}[r.IntN(4)]
			v, errno := s.Next(seconds)
			if errno != api.OK || seen[v.Text] {
				t.Fatalf("Next of %d: %s, error %d, again: %t", seconds, sample.Show(v), errno, seen[v.Text])
			}
			seen[v.Text] = true
		}
	}
}

// P6.8: with times that do not decrease, the identifiers of one source are strictly ascending, also where an error comes in between.
func TestAscending(t *testing.T) {
	r := rand.New(rand.NewPCG(6, 11))
	for _, from := range []int{0, 0x7ff0, 1<<32 - 2000} {
		s := sourceAt(t, 7, from)
		last, seconds := api.Value{}, 0
		for range 2000 {
			if r.IntN(2) == 0 {
				seconds = min(maxNumber, seconds+randomNumber(r)>>r.IntN(32))
			}
			if r.IntN(5) == 0 {
				expectNoNext(t, s, -1-r.IntN(9), api.ErrArg)
			}
			v, errno := s.Next(seconds)
			if errno != api.OK || value.Compare(last, v) >= 0 {
				t.Fatalf("Next of %d: %s, error %d, after %s", seconds, sample.Show(v), errno, sample.Show(last))
			}
			last = v
		}
	}
}
