package path

import (
	"math/rand/v2"
	"runtime"
	"slices"
	"strconv"
	"strings"
	"testing"

	"docstore/api"
)

// validSteps returns strings that are names, and so steps of valid paths.
func validSteps() []string {
	return []string{"a", "0", "00", "9999", "10000", "-1", "+1", "_id", "a$", "!", "~", "[]", "{x}", "\"", "\\", strings.Repeat("n", api.MaxName)}
}

// invalidSteps returns strings that are no names and have no periods.
func invalidSteps() []string {
	return []string{"", "$", "$a", "$[]", " ", "a b", "a ", "\x00", "a\x1f", "a\x7f", "a\x80", "\xff", "\u00e9", "a\n", strings.Repeat("n", api.MaxName+1), strings.Repeat("n", 1<<16)}
}

func expectParse(t *testing.T, s string, want []string, wantErrno api.Errno) {
	t.Helper()
	p, errno := Parse(s)
	if !slices.Equal(p, want) || errno != wantErrno {
		t.Errorf("Parse of %q: %q, error %d; expected %q, error %d", brief(s), p, errno, want, wantErrno)
	}
}

// P4.1, P4.11: the steps between the periods.
func TestParse(t *testing.T) {
	expectParse(t, "a.0.b", []string{"a", "0", "b"}, api.OK)
	expectParse(t, "a", []string{"a"}, api.OK)
	expectParse(t, "_id", []string{"_id"}, api.OK)
	expectParse(t, "a.a.a", []string{"a", "a", "a"}, api.OK)
	expectParse(t, "0", []string{"0"}, api.OK)
	for _, a := range validSteps() {
		for _, b := range validSteps() {
			expectParse(t, a, []string{a}, api.OK)
			expectParse(t, a+"."+b, []string{a, b}, api.OK)
			expectParse(t, "x."+b+"."+a, []string{"x", b, a}, api.OK)
		}
	}
}

// P4.1: empty steps, and steps that are not names, at every place.
func TestParseInvalidSteps(t *testing.T) {
	for _, s := range []string{"", ".", "..", "a.", ".a", "a..b", "a.b.", ".a.b", "a...b", "a.$", "$.a", "a.$.b", "a. b"} {
		expectParse(t, s, nil, api.ErrPath)
	}
	for _, step := range invalidSteps() {
		expectParse(t, step, nil, api.ErrPath)
		for _, valid := range validSteps() {
			expectParse(t, step+"."+valid, nil, api.ErrPath)
			expectParse(t, valid+"."+step, nil, api.ErrPath)
			expectParse(t, valid+"."+step+"."+valid, nil, api.ErrPath)
		}
	}
}

// P4.1: the greatest number of steps, and more.
func TestParseManySteps(t *testing.T) {
	for n := 1; n <= 3*api.MaxPath; n++ {
		for _, step := range []string{"a", "0", strings.Repeat("n", api.MaxName)} {
			p := slices.Repeat([]string{step}, n)
			s := strings.Join(p, ".")
			if n > api.MaxPath {
				expectParse(t, s, nil, api.ErrPath)
				continue
			}
			expectParse(t, s, p, api.OK)
			expectParse(t, s+".", nil, api.ErrPath)
			expectParse(t, "."+s, nil, api.ErrPath)
		}
	}
}

// R1: a string is refused without taking the memory of all of its steps.
func TestParseOfManyPeriods(t *testing.T) {
	for _, s := range []string{strings.Repeat(".", 1<<20), strings.Repeat("a.", 1<<20), strings.Repeat("a", 1<<20)} {
		var before, after runtime.MemStats
		runtime.ReadMemStats(&before)
		expectParse(t, s, nil, api.ErrPath)
		runtime.ReadMemStats(&after)
		if used := after.TotalAlloc - before.TotalAlloc; used > uint64(len(s)) {
			t.Errorf("%d bytes of memory were used for a string of %d bytes", used, len(s))
		}
	}
}

// P4.2: steps of every form are joined.
func TestText(t *testing.T) {
	for _, c := range []struct {
		p    []string
		want string
	}{
		{nil, ""},
		{[]string{}, ""},
		{[]string{"a"}, "a"},
		{[]string{"a", "0", "b"}, "a.0.b"},
		{[]string{""}, ""},
		{[]string{"", ""}, "."},
		{[]string{"a", ""}, "a."},
		{[]string{"", "a", "", "b"}, ".a..b"},
		{[]string{"a.b", "c"}, "a.b.c"},
		{[]string{"$", "$[]", "$[x]"}, "$.$[].$[x]"},
		{[]string{"\xff", "\x00", "\u00e9 "}, "\xff.\x00.\u00e9 "},
		{slices.Repeat([]string{"a"}, 1000), strings.Repeat("a.", 999) + "a"},
	} {
		if got := Text(c.p); got != c.want {
			t.Errorf("Text of %q: %q; expected %q", c.p, got, c.want)
		}
	}
}

func expectValid(t *testing.T, p []string, want bool) {
	t.Helper()
	if got := Valid(p); got != want {
		t.Errorf("Valid of %q: %t", p, got)
	}
}

// P4.3.
func TestValid(t *testing.T) {
	expectValid(t, nil, false)
	expectValid(t, []string{}, false)
	for _, step := range validSteps() {
		expectValid(t, []string{step}, true)
		for n := 1; n <= api.MaxPath+3; n++ {
			expectValid(t, slices.Repeat([]string{step}, n), n <= api.MaxPath)
		}
	}
	for _, step := range append(invalidSteps(), ".", "a.b", "a.", ".a", "0.1") {
		expectValid(t, []string{step}, false)
		for i := range api.MaxPath {
			p := slices.Repeat([]string{"a"}, api.MaxPath)
			p[i] = step
			expectValid(t, p, false)
		}
	}
}

// P4.3: every byte, at the beginning of a step and later.
func TestValidBytes(t *testing.T) {
	for b := range 0x100 {
		s := string([]byte{byte(b)})
		inName := b >= 0x21 && b <= 0x7e && b != '.'
		expectValid(t, []string{s}, inName && b != '$')
		expectValid(t, []string{"a" + s}, inName)
		expectValid(t, []string{"a", s + "a"}, inName && b != '$')
	}
}

// P4.4.
func TestNumber(t *testing.T) {
	for n := range 12000 {
		want, wantOK := n, n <= 9999
		if !wantOK {
			want = 0
		}
		if got, ok := Number(strconv.Itoa(n)); got != want || ok != wantOK {
			t.Errorf("Number of %d: %d, %t", n, got, ok)
		}
	}
	for _, step := range []string{
		"", "00", "01", "007", "0000", "00000", "09999", "-0", "-1", "+0", "+1", "-", "+", " 1", "1 ", "1.0", "1.", ".1", "1e3", "0x1", "1_0", "12_3", "a", "1a", "a1",
		"12a", "123a", "999a", "/", ":", "1/", "1:", "\x00", "1\x00", "\u0661", "\uff11", "\xb2", "10000", "99999", "4294967296", "9223372036854775807", "18446744073709551617", strings.Repeat("1", 1000), "1" + strings.Repeat("0", 64),
	} {
		if n, ok := Number(step); n != 0 || ok {
			t.Errorf("Number of %q: %d, %t", brief(step), n, ok)
		}
	}
}

// P4.10: both ways.
func TestOverlap(t *testing.T) {
	for _, c := range []struct {
		a, b string
		want bool
	}{
		{"", "", true},
		{"", "a", true},
		{"", "a.b.c", true},
		{"a", "a", true},
		{"a.b", "a.b", true},
		{"a.b", "a", true},
		{"a.b.c", "a", true},
		{"a.b.c", "a.b", true},
		{"a", "b", false},
		{"a.b", "a.c", false},
		{"a.b", "b", false},
		{"a.b", "b.a", false},
		{"a.b", "b.b", false},
		{"a.b.c", "a.c", false},
		{"a.b.c", "a.c.c", false},
		{"ab", "a", false},
		{"a.bc", "a.b", false},
		{"a.0", "a.00", false},
		{"a.0", "a.0.b", true},
		{"$", "$.a", true},
		{"a.", "a", true},
	} {
		a, b := steps(c.a), steps(c.b)
		if Overlap(a, b) != c.want || Overlap(b, a) != c.want {
			t.Errorf("Overlap of %q and %q: %t, %t", a, b, Overlap(a, b), Overlap(b, a))
		}
	}
	if !Overlap([]string{}, nil) || Overlap([]string{"a.b"}, steps("a.b")) || Overlap([]string{""}, []string{"a"}) || !Overlap([]string{""}, nil) {
		t.Error("Overlap of paths that are not valid")
	}
	long := slices.Repeat([]string{"a"}, 1000)
	if !Overlap(long, long[:999]) || Overlap(long, append(long[:998:998], "b")) {
		t.Error("Overlap of long paths")
	}
}

// P4.11: what is printed is parsed as the same path, and nothing else is accepted.
func TestBothWays(t *testing.T) {
	r := rand.New(rand.NewPCG(4, 11))
	pool := append(append(validSteps(), validSteps()...), invalidSteps()...)
	pool = append(pool, ".", "a.b")
	valid := 0
	for range 20000 {
		p := make([]string, r.IntN(5))
		for i := range p {
			p[i] = pool[r.IntN(len(pool))]
		}
		s := Text(p)
		parsed, errno := Parse(s)
		if Valid(p) {
			valid++
			if errno != api.OK || !slices.Equal(parsed, p) {
				t.Errorf("Parse of the text of %q: %q, error %d", p, parsed, errno)
			}
		}
		if errno == api.OK && (Text(parsed) != s || !Valid(parsed)) {
			t.Errorf("Parse of %q: %q", s, parsed)
		}
	}
	if valid < 1000 {
		t.Errorf("only %d paths were valid", valid)
	}
}
