package notation

import (
	"strconv"
	"strings"
	"unicode/utf8"

	"docstore/api"
)

const (
	decimalDigits = "0123456789"

	codeDigits = 4 // of the number behind \u

	// The numbers from d800 to dfff are no code points: their first digit is d, and the second one 8 or more.
	surrogateFirst  = 0xd
	surrogateSecond = 0x8
)

// text reads a string literal that is a value.
func (p *parser) text() api.Value {
	begin := p.at
	s := p.literal()
	if len(s) > api.MaxText {
		p.refuse(begin, api.ErrLimit)
	}
	if !utf8.ValidString(s) {
		p.refuse(begin, api.ErrForm)
	}
	return api.Value{Kind: api.KindText, Text: s}
}

// literal reads a string literal and returns its content.
func (p *parser) literal() string {
	p.skip(`"`)
	var content []byte
characters:
	for {
		c := p.next()
		switch {
		case c == '"':
			break characters
		case c == '\\':
			content = p.escape(content)
		case c < firstPlain:
			p.refuse(p.at, api.ErrForm)
		default:
			content = append(content, c)
			p.at++
		}
	}
	p.mark(`"`)
	return string(content)
}

// escape reads a backslash and what belongs to it, and appends what they stand for.
func (p *parser) escape(content []byte) []byte {
	p.skip(`\`)
	c := p.skip(escapes + "u")
	if c == 'u' {
		return utf8.AppendRune(content, p.codePoint())
	}
	return append(content, escaped[strings.IndexByte(escapes, c)])
}

func (p *parser) codePoint() rune {
	r := 0
	for i := range codeDigits {
		digit := strings.IndexByte(hexDigits, small(p.next()))
		if digit < 0 || i == 1 && r == surrogateFirst && digit >= surrogateSecond {
			p.refuse(p.at, api.ErrForm)
		}
		p.at++
		r = r<<4 | digit
	}
	return rune(r)
}

// small returns the small letter of a capital digit, and other bytes as they are.
func small(c byte) byte {
	if c >= 'A' && c <= 'F' {
		return c - 'A' + 'a'
	}
	return c
}

// integer reads an integer literal.
func (p *parser) integer() api.Value {
	begin := p.at
	if p.next() == '0' {
		p.at++
	} else {
		p.skipDigits()
	}
	n, err := strconv.Atoi(p.s[begin:p.at])
	if err != nil { // the form is right, so that the integer is out of range
		p.refuse(begin, api.ErrLimit)
	}
	p.skipBlanks()
	return api.Value{Kind: api.KindInt, Int: n}
}

// skipDigits passes an optional minus sign and digits that do not begin with 0.
func (p *parser) skipDigits() {
	if p.next() == '-' {
		p.at++
	}
	p.skip(decimalDigits[1:])
	for strings.IndexByte(decimalDigits, p.next()) >= 0 {
		p.at++
	}
}
