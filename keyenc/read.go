package keyenc

import (
	"docstore/api"
)

const (
	numBytes = 8
	topLevel = 1
)

// Decode returns the values of a key.
func Decode(s string, desc []bool) ([]api.Value, api.Errno) {
	r := reader{s: s}
	var l []api.Value
	for _, d := range desc {
		l = append(l, r.element(d))
		if r.errno != api.OK {
			return nil, r.errno
		}
	}
	if r.at < len(s) {
		return nil, api.ErrTrail
	}
	return l, api.OK
}

// reader reads a key from left to right. It keeps the first error; from there on it reads bytes 00 only, which end whatever has begun.
type reader struct {
	s     string
	at    int
	desc  bool // whether the bytes are inverted
	begun int  // the number of values that have begun within the element of the list
	errno api.Errno
}

// element reads a value of the list. What makes a value invalid without being out of place is an error only here, when the value has been read completely.
func (r *reader) element(desc bool) api.Value {
	r.desc, r.begun = desc, 0
	v := r.value(topLevel)
	if r.begun > api.MaxNodes || !isEncodable(v) {
		r.fail()
	}
	return v
}

// value reads a value of the given level.
func (r *reader) value(level int) api.Value {
	v := api.Value{Kind: int(r.octet())}
	r.begun++
	if level > api.MaxDepth || v.Kind == api.KindNone && level > topLevel {
		r.fail()
		return v
	}
	switch v.Kind {
	case api.KindNone, api.KindMin, api.KindNull, api.KindMax:
	case api.KindInt, api.KindBool, api.KindTime:
		v.Int = r.num()
	case api.KindText, api.KindBytes, api.KindID:
		v.Text = r.text()
	case api.KindList:
		v.List = r.list(level + 1)
	case api.KindDoc:
		v.Doc = r.fields(level + 1)
	default:
		r.fail()
	}
	return v
}

func (r *reader) num() int {
	u := uint64(0)
	for range numBytes {
		u = u<<byteBits | uint64(r.octet())
	}
	return int(u ^ signBit)
}

// text reads the bytes of a string up to its end.
func (r *reader) text() string {
	var b []byte
	for {
		c := r.octet()
		if c == ended && !r.isEscaped() {
			return string(b)
		}
		b = append(b, c)
	}
}

// isEscaped reads the byte behind a byte 00 of a string, and reports whether the string goes on.
func (r *reader) isEscaped() bool {
	switch r.octet() {
	case escaped:
		return true
	case ended:
		return false
	}
	r.fail()
	return false
}

// list reads elements of the given level.
func (r *reader) list(level int) []api.Value {
	var l []api.Value
	for r.goesOn() {
		if v := r.value(level); r.hasRoom() {
			l = append(l, v)
		}
	}
	return l
}

// fields reads fields with values of the given level.
func (r *reader) fields(level int) []api.Field {
	var fields []api.Field
	for r.goesOn() {
		name := r.name()
		if v := r.value(level); r.hasRoom() {
			fields = append(fields, api.Field{Name: name, Value: v})
		}
	}
	return fields
}

// hasRoom reports whether the values so far can be parts of a valid one. If not, they are not kept: there may be many more of them, which take much more memory than their bytes.
func (r *reader) hasRoom() bool {
	return r.begun <= api.MaxNodes
}

// goesOn reads the byte that tells whether a list or a document has another part.
func (r *reader) goesOn() bool {
	b := r.octet()
	if b > goesOn {
		r.fail()
	}
	return b == goesOn
}

// name reads any bytes up to a byte 00: whether they are a name is left to value.Valid.
func (r *reader) name() string {
	var b []byte
	for {
		c := r.octet()
		if c == ended {
			return string(b)
		}
		b = append(b, c)
	}
}

func (r *reader) octet() byte {
	if r.errno == api.OK && r.at == len(r.s) {
		r.errno = api.ErrShort
	}
	if r.errno != api.OK {
		return ended
	}
	b := r.s[r.at]
	r.at++
	if r.desc {
		return greatestByte - b
	}
	return b
}

// fail reports a byte or a value that cannot stand in its place.
func (r *reader) fail() {
	if r.errno == api.OK {
		r.errno = api.ErrForm
	}
}
