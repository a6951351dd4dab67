package codec

import (
	"math"
	"math/rand/v2"
	"strings"
	"testing"

	"docstore/api"
)

// expectNum checks that Num returns a string and that ReadNum returns the integer, wherever the string is.
func expectNum(t *testing.T, n int, want string) {
	t.Helper()
	if got := Num(n); got != want {
		t.Errorf("Num(%d) is %x; expected %x", n, got, want)
	}
	for _, c := range []struct{ before, behind string }{{"", ""}, {"\x80", ""}, {"\x00\x80", "\x00"}, {"", "\x80"}, {"ab", "\xff"}} {
		s, at := c.before+want+c.behind, len(c.before)
		if got, end, errno := ReadNum(s, at); got != n || end != at+len(want) || errno != api.OK {
			t.Errorf("ReadNum of %x at %d: %d, %d, error %d; expected %d, %d", s, at, got, end, errno, n, at+len(want))
		}
	}
}

// expectNoNum checks that ReadNum returns an error and nothing else.
func expectNoNum(t *testing.T, s string, at int, want api.Errno) {
	t.Helper()
	if n, end, errno := ReadNum(s, at); n != 0 || end != 0 || errno != want {
		t.Errorf("ReadNum of %s at %d: %d, %d, error %d; expected error %d", brief(s), at, n, end, errno, want)
	}
}

// P2.1, P2.2: encodings that are written out.
func TestNum(t *testing.T) {
	expectNum(t, 0, "\x00")
	expectNum(t, -1, "\x01")
	expectNum(t, 1, "\x02")
	expectNum(t, -2, "\x03")
	expectNum(t, 63, "\x7e")
	expectNum(t, -64, "\x7f")
	expectNum(t, 64, "\x80\x01")
	expectNum(t, -65, "\x81\x01")
	expectNum(t, 300, "\xd8\x04")
	expectNum(t, 8191, "\xfe\x7f")
	expectNum(t, 8192, "\x80\x80\x01")
	expectNum(t, math.MaxInt, "\xfe\xff\xff\xff\xff\xff\xff\xff\xff\x01")
	expectNum(t, math.MinInt, "\xff\xff\xff\xff\xff\xff\xff\xff\xff\x01")
}

// P2.1, P2.2: every length, at the least and the greatest integers that have it.
func TestNumLengths(t *testing.T) {
	for length := 1; length <= 9; length++ {
		high := strings.Repeat("\xff", length-1)
		most := 1<<(7*length-1) - 1
		expectNum(t, -most-1, high+"\x7f")
		if length == 1 {
			expectNum(t, most, "\x7e")
		} else {
			expectNum(t, most, "\xfe"+high[1:]+"\x7f")
		}
		expectNum(t, most+1, strings.Repeat("\x80", length)+"\x01")
		expectNum(t, -most-2, "\x81"+strings.Repeat("\x80", length-1)+"\x01")
	}
}

// P2.1, P2.2: what Num returns is read, for integers of all sizes, and no proper prefix of it is.
func TestNumRoundTrip(t *testing.T) {
	r := rand.New(rand.NewPCG(2, 1))
	for range 5000 {
		n := int(r.Uint64()) >> r.IntN(64)
		s := Num(n)
		expectNum(t, n, s)
		for i := range len(s) {
			expectNoNum(t, s[:i], 0, api.ErrShort)
		}
	}
}

// P2.2: the offset comes before every other error.
func TestReadNumOffsets(t *testing.T) {
	for _, at := range []int{-1, -2, 3, 4, math.MinInt, math.MaxInt} {
		expectNoNum(t, "\x02\x80", at, api.ErrArg)
	}
	expectNoNum(t, "\x02\x80", 2, api.ErrShort)
	expectNoNum(t, "\x02\x80", 1, api.ErrShort)
	expectNoNum(t, "", 0, api.ErrShort)
	expectNoNum(t, "", 1, api.ErrArg)
	expectNoNum(t, "", -1, api.ErrArg)
}

// P2.2: the bytes are checked one by one.
func TestReadNumErrors(t *testing.T) {
	nine := strings.Repeat("\xff", 9)
	for i := range 10 {
		expectNoNum(t, nine[:i], 0, api.ErrShort)
		expectNoNum(t, "\x00"+strings.Repeat("\x80", i), 1, api.ErrShort)
		if i > 0 {
			expectNoNum(t, nine[:i]+"\x00", 0, api.ErrForm)
			expectNoNum(t, nine[:i]+"\x00\x01", 0, api.ErrForm)
			expectNoNum(t, strings.Repeat("\x80", i)+"\x00", 0, api.ErrForm)
		}
	}
	for b := 2; b <= 0xff; b++ {
		expectNoNum(t, nine+string([]byte{byte(b)}), 0, api.ErrForm)
		expectNoNum(t, nine+string([]byte{byte(b), 0, 1}), 0, api.ErrForm)
	}
}

// P2.2: of all strings of two bytes, ReadNum accepts exactly those that begin with what Num returns.
func TestReadNumAccepts(t *testing.T) {
	for a := range 0x100 {
		for b := range 0x100 {
			s := string([]byte{byte(a), byte(b)})
			n, end, errno := ReadNum(s, 0)
			switch {
			case a < 0x80 && (end != 1 || errno != api.OK || Num(n) != s[:1]),
				a >= 0x80 && b == 0 && errno != api.ErrForm,
				a >= 0x80 && 0 < b && b < 0x80 && (end != 2 || errno != api.OK || Num(n) != s),
				a >= 0x80 && b >= 0x80 && errno != api.ErrShort:
				t.Errorf("ReadNum of %x: %d, %d, error %d", s, n, end, errno)
			}
		}
	}
}
