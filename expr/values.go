package expr

import (
	"docstore/api"
)

func null() api.Value              { return api.Value{Kind: api.KindNull} }
func num(n int) api.Value          { return api.Value{Kind: api.KindInt, Int: n} }
func text(s string) api.Value      { return api.Value{Kind: api.KindText, Text: s} }
func list(l []api.Value) api.Value { return api.Value{Kind: api.KindList, List: l} }

func boolean(b bool) api.Value {
	if b {
		return api.Value{Kind: api.KindBool, Int: 1}
	}
	return api.Value{Kind: api.KindBool}
}

// document returns the document with names and values, without the values that are missing.
func document(names []string, values []api.Value) api.Value {
	var fields []api.Field
	for i, v := range values {
		if !isMissing(v) {
			fields = append(fields, api.Field{Name: names[i], Value: v})
		}
	}
	return api.Value{Kind: api.KindDoc, Doc: fields}
}

func isMissing(v api.Value) bool {
	return v.Kind == api.KindNone
}

func isNullOrMissing(v api.Value) bool {
	return isMissing(v) || v.Kind == api.KindNull
}

// isTrue reports whether a value counts as true.
func isTrue(v api.Value) bool {
	switch v.Kind {
	case api.KindNone, api.KindNull:
		return false
	case api.KindInt, api.KindBool:
		return v.Int != 0
	}
	return true
}

func areAll(values []api.Value, kind int) bool {
	for _, v := range values {
		if v.Kind != kind {
			return false
		}
	}
	return true
}

// present returns values with null instead of those that are missing.
func present(values []api.Value) []api.Value {
	l := make([]api.Value, len(values))
	for i, v := range values {
		l[i] = presentOne(v)
	}
	return l
}

func presentOne(v api.Value) api.Value {
	if isMissing(v) {
		return null()
	}
	return v
}
