package keyenc

import (
	"strings"
	"testing"
)

func expectAfter(t *testing.T, prefix, want string, wantOK bool) {
	t.Helper()
	if s, ok := After(prefix); s != want || ok != wantOK {
		t.Errorf("After of %s: %s, %t; expected %s, %t", brief(prefix), brief(s), ok, brief(want), wantOK)
	}
}

// P3.3: strings with a byte other than ff.
func TestAfter(t *testing.T) {
	expectAfter(t, "a", "b", true)
	expectAfter(t, "a\xff", "b", true)
	expectAfter(t, "\x00", "\x01", true)
	expectAfter(t, "\x00\x00", "\x00\x01", true)
	expectAfter(t, "\xfe", "\xff", true)
	expectAfter(t, "\xfe\xff", "\xff", true)
	expectAfter(t, "\xff\x00", "\xff\x01", true)
	expectAfter(t, "\xff\x00\xff\xff", "\xff\x01", true)
	expectAfter(t, "\xff\xfe\xff", "\xff\xff", true)
	expectAfter(t, "ab\x7f", "ab\x80", true)
	expectAfter(t, "\xc3\xff", "\xc4", true)
	expectAfter(t, "\xef\xbf\xbd", "\xef\xbf\xbe", true)
	expectAfter(t, "a\x80\xff", "a\x81", true)
	expectAfter(t, "a"+strings.Repeat("\xff", 1<<16), "b", true)
	expectAfter(t, strings.Repeat("\xff", 1<<16)+"a", strings.Repeat("\xff", 1<<16)+"b", true)
	for b := range 0xff {
		s := string([]byte{byte(b)})
		expectAfter(t, "a"+s+"\xff", "a"+string([]byte{byte(b + 1)}), true)
	}
}

// P3.3: strings with no byte other than ff.
func TestAfterNone(t *testing.T) {
	expectAfter(t, "", "", false)
	for _, n := range []int{1, 2, 3, 1 << 16} {
		expectAfter(t, strings.Repeat("\xff", n), "", false)
	}
}

// P3.3: no string lies between those that begin with the prefix and After of it.
func TestAfterIsLeast(t *testing.T) {
	const bytes = "\x00\x01a\xfe\xff"
	var strs []string
	var grow func(s string)
	grow = func(s string) {
		strs = append(strs, s)
		for i := 0; i < len(bytes) && len(s) < 3; i++ {
			grow(s + bytes[i:i+1])
		}
	}
	grow("")
	for _, prefix := range strs {
		after, ok := After(prefix)
		for _, s := range strs {
			inside := strings.HasPrefix(s, prefix)
			if got := s >= prefix && (!ok || s < after); got != inside {
				t.Errorf("After of %x is %x, %t; %x begins with it: %t", prefix, after, ok, s, inside)
			}
		}
	}
}
