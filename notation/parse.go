package notation

import (
	"slices"
	"strings"

	"docstore/api"
)

const (
	wordNull  = "null"
	wordTrue  = "true"
	wordFalse = "false"

	blanks          = "\t\n\r "
	valueBeginnings = `ntf-0123456789"[{`
	plainBeginnings = `-0123456789"` // of integers and strings
)

// fault is the first error of a text, with its offset.
type fault struct {
	at    int
	errno api.Errno
}

// parser reads a text from left to right. At the first error its methods panic with a fault, and with nothing else, which Parse recovers. A method that reads a token also reads the blanks behind it.
type parser struct {
	s       string
	at      int // the offset of the next byte
	counted int // the number of values that have been counted
}

// Parse parses a text, and returns the offset of the first error.
func Parse(s string) (v api.Value, at int, errno api.Errno) {
	defer func() {
		if r := recover(); r != nil {
			f := r.(fault)
			v, at, errno = api.Value{}, f.at, f.errno
		}
	}()
	p := parser{s: s}
	p.skipBlanks()
	v = p.value(1)
	if p.at < len(s) {
		p.refuse(p.at, api.ErrForm)
	}
	return v, 0, api.OK
}

func (p *parser) refuse(at int, errno api.Errno) {
	panic(fault{at, errno})
}

// next returns the next byte. At the end it returns the byte 0, since no text can go on with this byte anywhere either.
func (p *parser) next() byte {
	if p.at == len(p.s) {
		return 0
	}
	return p.s[p.at]
}

// skip passes the next byte, which has to be one of some.
func (p *parser) skip(some string) byte {
	c := p.next()
	if strings.IndexByte(some, c) < 0 {
		p.refuse(p.at, api.ErrForm)
	}
	p.at++
	return c
}

func (p *parser) skipBlanks() {
	for strings.IndexByte(blanks, p.next()) >= 0 {
		p.at++
	}
}

// mark reads one of some bytes as a token.
func (p *parser) mark(some string) byte {
	c := p.skip(some)
	p.skipBlanks()
	return c
}

// value reads and counts a value of the given level.
func (p *parser) value(level int) api.Value {
	if strings.IndexByte(valueBeginnings, p.next()) < 0 {
		p.refuse(p.at, api.ErrForm)
	}
	p.count(p.at, level)
	return p.uncounted(level)
}

// count counts a value that begins at an offset.
func (p *parser) count(at, level int) {
	if level > api.MaxDepth || p.counted == api.MaxNodes {
		p.refuse(at, api.ErrLimit)
	}
	p.counted++
}

// uncounted reads a value without counting it; its parts are counted.
func (p *parser) uncounted(level int) api.Value {
	switch p.next() {
	case 'n':
		return p.word(wordNull, api.Value{Kind: api.KindNull})
	case 't':
		return p.word(wordTrue, api.Value{Kind: api.KindBool, Int: 1})
	case 'f':
		return p.word(wordFalse, api.Value{Kind: api.KindBool, Int: 0})
	case '"':
		return p.text()
	case '[':
		return p.list(level)
	case '{':
		return p.object(level)
	}
	return p.integer()
}

func (p *parser) word(w string, v api.Value) api.Value {
	for i := range len(w) {
		p.skip(w[i : i+1])
	}
	p.skipBlanks()
	return v
}

func (p *parser) list(level int) api.Value {
	v := api.Value{Kind: api.KindList}
	p.mark("[")
	if p.next() == ']' {
		p.mark("]")
		return v
	}
	for {
		v.List = append(v.List, p.value(level+1))
		if p.mark(",]") == ']' {
			return v
		}
	}
}

// object reads a document or a special value.
func (p *parser) object(level int) api.Value {
	d := api.Value{Kind: api.KindDoc}
	p.mark("{")
	if p.next() == '}' {
		p.mark("}")
		return d
	}
	for {
		f, end := p.field(d.Doc, level+1)
		d.Doc = append(d.Doc, f)
		if end == '}' {
			break
		}
	}
	if v, ok := special(d.Doc); ok {
		return v
	}
	return d
}

// field reads a field of an object that has some fields already, and the mark behind it. Where it may be that of a special value, its value is counted only when the mark shows that it is not.
func (p *parser) field(earlier []api.Field, level int) (api.Field, byte) {
	f := api.Field{Name: p.name(earlier)}
	p.mark(":")
	begin := p.at
	if len(earlier) > 0 || !p.mayBeSpecial(f.Name) {
		f.Value = p.value(level)
		return f, p.mark(",}")
	}
	f.Value = p.uncounted(level)
	end := p.mark(",}")
	if _, ok := special([]api.Field{f}); !ok || end == ',' {
		p.count(begin, level)
	}
	return f, end
}

// mayBeSpecial reports whether an object may be a special value, if its first field has this name and a value that begins with the next byte.
func (p *parser) mayBeSpecial(name string) bool {
	return isSpecialName(name) && strings.IndexByte(plainBeginnings, p.next()) >= 0
}

// name reads the name of a field of an object that has some fields already.
func (p *parser) name(earlier []api.Field) string {
	begin := p.at
	s := p.literal()
	if len(s) > maxNameBytes {
		p.refuse(begin, api.ErrLimit)
	}
	if !isName(s) || slices.ContainsFunc(earlier, func(f api.Field) bool { return f.Name == s }) {
		p.refuse(begin, api.ErrForm)
	}
	return s
}
