// Package value is layer 1: values, their validity and their total order. It is specified in shared/doc/01-value.md.
package value

import (
	"unicode/utf8"

	"docstore/api"
)

const idBytes = 12

// Valid reports whether a value is valid.
func Valid(v api.Value) bool {
	// The number of values comes first: it bounds the work of the other checks.
	return Nodes(v) <= api.MaxNodes && Depth(v) <= api.MaxDepth && isSound(v)
}

// Depth returns the number of levels of a value, at most MaxDepth+1.
func Depth(v api.Value) int {
	return levels(v, api.MaxDepth+1)
}

// Nodes returns the number of values within a value, itself included, at most MaxNodes+1.
func Nodes(v api.Value) int {
	return count(v, api.MaxNodes+1)
}

// levels returns the number of levels of a value, at most limit, which is at least 1.
func levels(v api.Value, limit int) int {
	below := 0
	for i := range partCount(v) {
		if below == limit-1 {
			break
		}
		below = max(below, levels(part(v, i), limit-1))
	}
	return below + 1
}

// count returns the number of values within a value, at most limit, which is at least 1.
func count(v api.Value, limit int) int {
	n := 1
	for i := range partCount(v) {
		if n == limit {
			break
		}
		n += count(part(v, i), limit-n)
	}
	return n
}

// partCount goes by the kind alone, because values of other kinds have no parts, whatever their fields contain.
func partCount(v api.Value) int {
	switch v.Kind {
	case api.KindList:
		return len(v.List)
	case api.KindDoc:
		return len(v.Doc)
	}
	return 0
}

// part returns one of the parts that partCount counts.
func part(v api.Value, i int) api.Value {
	if v.Kind == api.KindList {
		return v.List[i]
	}
	return v.Doc[i].Value
}

// isSound reports whether a value and its parts fulfil the conditions of their kinds and leave the other fields empty.
func isSound(v api.Value) bool {
	if !fulfilsCondition(v) || !leavesRestEmpty(v) {
		return false
	}
	for i := range partCount(v) {
		if !isSound(part(v, i)) {
			return false
		}
	}
	return true
}

// fulfilsCondition checks the condition of the kind, except for the parts.
func fulfilsCondition(v api.Value) bool {
	switch v.Kind {
	case api.KindMin, api.KindNull, api.KindMax, api.KindInt, api.KindList:
		return true
	case api.KindBool:
		return v.Int == 0 || v.Int == 1
	case api.KindTime:
		return v.Int >= 0
	case api.KindText:
		return len(v.Text) <= api.MaxText && utf8.ValidString(v.Text)
	case api.KindBytes:
		return len(v.Text) <= api.MaxText
	case api.KindID:
		return len(v.Text) == idBytes
	case api.KindDoc:
		return hasDistinctNames(v.Doc)
	}
	return false
}

// leavesRestEmpty reports whether the fields of the struct that the kind does not use are zero or empty.
func leavesRestEmpty(v api.Value) bool {
	switch v.Kind {
	case api.KindInt, api.KindBool, api.KindTime:
		v.Int = 0
	case api.KindText, api.KindBytes, api.KindID:
		v.Text = ""
	case api.KindList:
		v.List = nil
	case api.KindDoc:
		v.Doc = nil
	}
	return v.Int == 0 && v.Text == "" && len(v.List) == 0 && len(v.Doc) == 0
}

// hasDistinctNames reports whether the names of the fields are names, each of which occurs once.
func hasDistinctNames(fields []api.Field) bool {
	seen := map[string]bool{}
	for _, f := range fields {
		if !isName(f.Name) || seen[f.Name] {
			return false
		}
		seen[f.Name] = true
	}
	return true
}

// isName reports whether a string is a name as DOC.md defines it in its section Terms.
func isName(s string) bool {
	if len(s) == 0 || len(s) > api.MaxName || s[0] == '$' {
		return false
	}
	for i := range len(s) {
		if s[i] < 0x21 || s[i] > 0x7e || s[i] == '.' {
			return false
		}
	}
	return true
}
