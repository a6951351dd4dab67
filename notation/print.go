package notation

import (
	"strconv"

	"docstore/api"
	"docstore/value"
)

// Print returns the text of a value.
func Print(v api.Value) (string, api.Errno) {
	// The limits come first: they bound the work of the other checks.
	if value.Nodes(v) > api.MaxNodes || value.Depth(v) > api.MaxDepth || !isSound(v) {
		return "", api.ErrKind
	}
	if errno := checkReadable(v); errno != api.OK {
		return "", errno
	}
	return string(appendValue(nil, v)), api.OK
}

// Quote returns a string literal.
func Quote(s string) string {
	return string(appendLiteral(nil, s))
}

// isSound reports whether a value and its parts fulfil the conditions of their kinds. Without its parts, a value is asked to fulfil those of value.Valid, since only the names of fields have other ones here.
func isSound(v api.Value) bool {
	bare := v
	switch v.Kind {
	case api.KindList:
		bare.List = nil
	case api.KindDoc:
		bare.Doc = nil
	}
	if !value.Valid(bare) || !hasDistinctNames(v.Doc) {
		return false
	}
	for _, p := range parts(v) {
		if !isSound(p) {
			return false
		}
	}
	return true
}

func hasDistinctNames(fields []api.Field) bool {
	seen := map[string]bool{}
	for _, f := range fields {
		if !isName(f.Name) || seen[f.Name] {
			return false
		}
		seen[f.Name] = true
	}
	return true
}

// checkReadable returns an error if the text of a well-formed value would be read as another value, or refused.
func checkReadable(v api.Value) api.Errno {
	if _, ok := special(v.Doc); ok {
		return api.ErrForm
	}
	if v.Kind == api.KindBytes && len(v.Text) > api.MaxText/2 {
		return api.ErrLimit
	}
	for _, p := range parts(v) {
		if errno := checkReadable(p); errno != api.OK {
			return errno
		}
	}
	return api.OK
}

func appendValue(b []byte, v api.Value) []byte {
	switch v.Kind {
	case api.KindNull:
		return append(b, wordNull...)
	case api.KindBool:
		return strconv.AppendBool(b, v.Int == 1)
	case api.KindInt:
		return strconv.AppendInt(b, int64(v.Int), 10)
	case api.KindText:
		return appendLiteral(b, v.Text)
	case api.KindList:
		return appendList(b, v.List)
	case api.KindDoc:
		return appendFields(b, v.Doc)
	}
	return appendFields(b, []api.Field{fieldOf(v)})
}

func appendList(b []byte, l []api.Value) []byte {
	b = append(b, '[')
	for i, v := range l {
		if i > 0 {
			b = append(b, ',')
		}
		b = appendValue(b, v)
	}
	return append(b, ']')
}

func appendFields(b []byte, fields []api.Field) []byte {
	b = append(b, '{')
	for i, f := range fields {
		if i > 0 {
			b = append(b, ',')
		}
		b = append(appendLiteral(b, f.Name), ':')
		b = appendValue(b, f.Value)
	}
	return append(b, '}')
}

func appendLiteral(b []byte, s string) []byte {
	b = append(b, '"')
	for i := range len(s) {
		b = appendCharacter(b, s[i])
	}
	return append(b, '"')
}

func appendCharacter(b []byte, c byte) []byte {
	switch {
	case c == '"', c == '\\':
		return append(b, '\\', c)
	case c == '\n':
		return append(b, `\n`...)
	case c == '\r':
		return append(b, `\r`...)
	case c == '\t':
		return append(b, `\t`...)
	case c < firstPlain, c == deleteByte:
		return append(b, '\\', 'u', '0', '0', hexDigits[c>>4], hexDigits[c&0xf])
	}
	return append(b, c)
}
