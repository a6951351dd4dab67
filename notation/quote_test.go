package notation

import (
	"fmt"
	"math/rand/v2"
	"strings"
	"testing"
	"unicode/utf8"

	"docstore/api"
)

func expectQuote(t *testing.T, s, want string) {
	t.Helper()
	if got := Quote(s); got != want {
		t.Errorf("Quote of %q: %q; expected %q", brief(s), brief(got), brief(want))
	}
}

// characterOf returns the character of a byte, as the chapter defines it.
func characterOf(b byte) string {
	switch b {
	case '"':
		return `\"`
	case '\\':
		return `\\`
	case 0x0a:
		return `\n`
	case 0x0d:
		return `\r`
	case 0x09:
		return `\t`
	case 0x7f:
		return `\u007f`
	}
	if b < 0x20 {
		return fmt.Sprintf(`\u00%02x`, b)
	}
	return string([]byte{b})
}

// P5.1: every byte, alone and among others.
func TestQuoteBytes(t *testing.T) {
	for b := range 0x100 {
		s := string([]byte{byte(b)})
		c := characterOf(byte(b))
		expectQuote(t, s, `"`+c+`"`)
		expectQuote(t, "a"+s+s+"b", `"a`+c+c+`b"`)
	}
}

// P5.1.
func TestQuote(t *testing.T) {
	for s, want := range map[string]string{
		"":                  `""`,
		"a\"\x01":           `"a\"\u0001"`,
		"a":                 `"a"`,
		"plain /words'":     `"plain /words'"`,
		`""`:                `"\"\""`,
		`\n`:                `"\\n"`,
		`\u0041`:            `"\\u0041"`,
		"\b\f\v\x0e":        `"\u0008\u000c\u000b\u000e"`,
		"\x1f\x20\x7e\x7f":  `"\u001f ~\u007f"`,
		"\u00e9\u2028<>&":   "\"\u00e9\u2028<>&\"",
		"\U0001f600":        "\"\U0001f600\"",
		"\u0080\u009f":      "\"\u0080\u009f\"",
		"\x80\xff":          "\"\x80\xff\"",
		"\xc3":              "\"\xc3\"",
		"\xed\xa0\x80":      "\"\xed\xa0\x80\"",
		"\xc0\x80\xff\x0a!": "\"\xc0\x80\xff\\n!\"",
	} {
		expectQuote(t, s, want)
	}
	long := strings.Repeat("\x00a\xff", 100000)
	expectQuote(t, long, `"`+strings.Repeat("\\u0000a\xff", 100000)+`"`)
}

// P5.1, P5.3: a literal is read as the bytes that it was made of.
func TestQuoteIsRead(t *testing.T) {
	r := rand.New(rand.NewPCG(5, 1))
	for range 20000 {
		b := make([]byte, r.IntN(12))
		for i := range b {
			b[i] = byte(r.IntN(0x100) >> r.IntN(4))
		}
		s := string(b)
		if !utf8.ValidString(s) {
			expectRefused(t, Quote(s), 0, api.ErrForm)
			continue
		}
		expectParse(t, Quote(s), text(s))
	}
}
