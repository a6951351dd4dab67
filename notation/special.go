package notation

import (
	"strings"

	"docstore/api"
)

// The names that make an object with one field a special value, if the value of the field has the right form.
const (
	nameID    = "$id"
	nameBytes = "$bytes"
	nameTime  = "$time"
	nameMin   = "$min"
	nameMax   = "$max"
)

const (
	idDigits = 24
	one      = 1 // the integer with which Min and Max are written
)

func isSpecialName(name string) bool {
	switch name {
	case nameID, nameBytes, nameTime, nameMin, nameMax:
		return true
	}
	return false
}

// special returns the special value that an object with these fields is, and false if the object is a document.
func special(fields []api.Field) (api.Value, bool) {
	if len(fields) != 1 {
		return api.Value{}, false
	}
	name, v := fields[0].Name, fields[0].Value
	switch {
	case name == nameID && v.Kind == api.KindText && len(v.Text) == idDigits:
		return specialBytes(api.KindID, v.Text)
	case name == nameBytes && v.Kind == api.KindText:
		return specialBytes(api.KindBytes, v.Text)
	case name == nameTime && v.Kind == api.KindInt && v.Int >= 0:
		return api.Value{Kind: api.KindTime, Int: v.Int}, true
	case name == nameMin && v.Kind == api.KindInt && v.Int == one:
		return api.Value{Kind: api.KindMin}, true
	case name == nameMax && v.Kind == api.KindInt && v.Int == one:
		return api.Value{Kind: api.KindMax}, true
	}
	return api.Value{}, false
}

func specialBytes(kind int, digits string) (api.Value, bool) {
	s, ok := fromHex(digits)
	if !ok {
		return api.Value{}, false
	}
	return api.Value{Kind: kind, Text: s}, true
}

// fieldOf returns the only field of the object as which a special value is written.
func fieldOf(v api.Value) api.Field {
	switch v.Kind {
	case api.KindID:
		return api.Field{Name: nameID, Value: api.Value{Kind: api.KindText, Text: toHex(v.Text)}}
	case api.KindBytes:
		return api.Field{Name: nameBytes, Value: api.Value{Kind: api.KindText, Text: toHex(v.Text)}}
	case api.KindTime:
		return api.Field{Name: nameTime, Value: api.Value{Kind: api.KindInt, Int: v.Int}}
	case api.KindMin:
		return api.Field{Name: nameMin, Value: api.Value{Kind: api.KindInt, Int: one}}
	}
	return api.Field{Name: nameMax, Value: api.Value{Kind: api.KindInt, Int: one}}
}

func toHex(s string) string {
	b := make([]byte, 0, 2*len(s))
	for i := range len(s) {
		b = append(b, hexDigits[s[i]>>4], hexDigits[s[i]&0xf])
	}
	return string(b)
}

// fromHex returns the bytes with these digits, which have to be in small letters.
func fromHex(digits string) (string, bool) {
	if len(digits)%2 != 0 {
		return "", false
	}
	b := make([]byte, len(digits)/2)
	for i := range b {
		high := strings.IndexByte(hexDigits, digits[2*i])
		low := strings.IndexByte(hexDigits, digits[2*i+1])
		if high < 0 || low < 0 {
			return "", false
		}
		b[i] = byte(high<<4 | low)
	}
	return string(b), true
}
