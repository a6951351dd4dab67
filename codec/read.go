package codec

import (
	"strings"
	"unicode/utf8"

	"docstore/api"
	"docstore/value"
)

const idBytes = 12

// ReadNum reads an integer at an offset and returns the offset behind it.
func ReadNum(s string, at int) (int, int, api.Errno) {
	if at < 0 || at > len(s) {
		return 0, 0, api.ErrArg
	}
	u := uint64(0)
	for i := 0; ; i++ {
		if at+i == len(s) {
			return 0, 0, api.ErrShort
		}
		b := s[at+i]
		if i == lastGroup && b > lastGroupMax || i > 0 && b == 0 {
			return 0, 0, api.ErrForm
		}
		u |= uint64(b&groupMask) << (groupBits * i)
		if b < moreGroups {
			return signed(u), at + i + 1, api.OK
		}
	}
}

// signed returns the integer for which u stands: 0, 1, 2, 3 stand for 0, -1, 1, -2.
func signed(u uint64) int {
	n := int(u >> 1)
	if u%2 == 1 {
		return ^n
	}
	return n
}

// Read reads a value at an offset and returns the offset behind it.
func Read(s string, at int) (v api.Value, end int, errno api.Errno) {
	if at < 0 || at > len(s) {
		return api.Value{}, 0, api.ErrArg
	}
	defer func() {
		if p := recover(); p != nil {
			v, end, errno = api.Value{}, 0, p.(api.Errno)
		}
	}()
	r := reader{s: s, at: at}
	v = r.value(1)
	return v, r.at, api.OK
}

// Decode returns the value with an encoding.
func Decode(s string) (api.Value, api.Errno) {
	v, end, errno := Read(s, 0)
	if errno != api.OK {
		return api.Value{}, errno
	}
	if end < len(s) {
		return api.Value{}, api.ErrTrail
	}
	return v, api.OK
}

// reader reads a string from left to right. Where the string is malformed, its methods panic with an api.Errno, and with nothing else, which Read recovers.
type reader struct {
	s     string
	at    int
	begun int // the number of values that have begun
}

// value reads a value of the given level.
func (r *reader) value(level int) api.Value {
	if level > api.MaxDepth || r.begun == api.MaxNodes {
		panic(api.ErrLimit)
	}
	r.begun++
	v := api.Value{Kind: int(r.octet())}
	switch v.Kind {
	case api.KindMin, api.KindNull, api.KindMax:
	case api.KindInt:
		v.Int = r.num()
	case api.KindTime:
		v.Int = r.natural()
	case api.KindBool:
		v.Int = r.bit()
	case api.KindText:
		v.Text = r.text()
	case api.KindBytes:
		v.Text = r.octets()
	case api.KindID:
		v.Text = r.take(idBytes)
	case api.KindList:
		v.List = r.list(level + 1)
	case api.KindDoc:
		v.Doc = r.fields(level + 1)
	default:
		panic(api.ErrForm)
	}
	return v
}

// list reads elements of the given level. It makes no room for them before they are read, because their number may be a lie.
func (r *reader) list(level int) []api.Value {
	var l []api.Value
	for range r.natural() {
		l = append(l, r.value(level))
	}
	return l
}

// fields reads fields with values of the given level.
func (r *reader) fields(level int) []api.Field {
	var fields []api.Field
	seen := map[string]bool{}
	for range r.natural() {
		name := r.name()
		if seen[name] {
			panic(api.ErrForm)
		}
		seen[name] = true
		fields = append(fields, api.Field{Name: name, Value: r.value(level)})
	}
	return fields
}

func (r *reader) name() string {
	n := r.natural()
	if n < 1 || n > api.MaxName {
		panic(api.ErrForm)
	}
	s := r.take(n)
	if !isName(s) {
		panic(api.ErrForm)
	}
	return s
}

// isName leaves the decision to the layer that defines what the names of the fields of a valid document are.
func isName(s string) bool {
	f := api.Field{Name: s, Value: api.Value{Kind: api.KindNull}}
	return value.Valid(api.Value{Kind: api.KindDoc, Doc: []api.Field{f}})
}

func (r *reader) text() string {
	s := r.octets()
	if !utf8.ValidString(s) {
		panic(api.ErrForm)
	}
	return s
}

func (r *reader) octets() string {
	n := r.natural()
	if n > api.MaxText {
		panic(api.ErrLimit)
	}
	return r.take(n)
}

// take reads n bytes. It copies them, because a part of the string would keep the whole string in memory.
func (r *reader) take(n int) string {
	if len(r.s)-r.at < n {
		panic(api.ErrShort)
	}
	s := strings.Clone(r.s[r.at : r.at+n])
	r.at += n
	return s
}

// natural reads an integer from 0 on.
func (r *reader) natural() int {
	n := r.num()
	if n < 0 {
		panic(api.ErrForm)
	}
	return n
}

func (r *reader) num() int {
	n, end, errno := ReadNum(r.s, r.at)
	if errno != api.OK {
		panic(errno)
	}
	r.at = end
	return n
}

func (r *reader) bit() int {
	b := r.octet()
	if b > 1 {
		panic(api.ErrForm)
	}
	return int(b)
}

func (r *reader) octet() byte {
	if r.at == len(r.s) {
		panic(api.ErrShort)
	}
	b := r.s[r.at]
	r.at++
	return b
}
