package value

import (
	"slices"

	"docstore/api"
)

// Get returns a field of a document.
func Get(d api.Value, name string) (api.Value, bool) {
	i := fieldIndex(d, name)
	if i < 0 {
		return api.Value{}, false
	}
	return clone(d.Doc[i].Value), true
}

// Set returns a document with a field replaced, or added at the end.
func Set(d api.Value, name string, v api.Value) api.Value {
	result := clone(d)
	if d.Kind != api.KindDoc {
		return result
	}
	if i := fieldIndex(d, name); i >= 0 {
		result.Doc[i].Value = clone(v)
	} else {
		result.Doc = append(result.Doc, api.Field{Name: name, Value: clone(v)})
	}
	return result
}

// Remove returns a document without a field.
func Remove(d api.Value, name string) api.Value {
	result := clone(d)
	if i := fieldIndex(d, name); i >= 0 {
		result.Doc = slices.Delete(result.Doc, i, i+1)
	}
	return result
}

// fieldIndex returns the index of the first field with a name, or -1 if there is none or the value is no document.
func fieldIndex(d api.Value, name string) int {
	if d.Kind != api.KindDoc {
		return -1
	}
	return slices.IndexFunc(d.Doc, func(f api.Field) bool { return f.Name == name })
}

// clone copies a value at every level. It copies the fields that the kind does not use as well, because an invalid value is also returned as it is.
func clone(v api.Value) api.Value {
	v.List = cloneList(v.List)
	v.Doc = cloneFields(v.Doc)
	return v
}

func cloneList(l []api.Value) []api.Value {
	if l == nil {
		return nil
	}
	c := make([]api.Value, len(l))
	for i, v := range l {
		c[i] = clone(v)
	}
	return c
}

func cloneFields(fields []api.Field) []api.Field {
	if fields == nil {
		return nil
	}
	c := make([]api.Field, len(fields))
	for i, f := range fields {
		c[i] = api.Field{Name: f.Name, Value: clone(f.Value)}
	}
	return c
}
