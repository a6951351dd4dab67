package path

import (
	"slices"

	"docstore/api"
	"docstore/value"
)

// Get returns the value at a path, where lists are entered only by an index.
func Get(v api.Value, p []string) api.Value {
	if at := find(&v, p); at != nil {
		return copied(*at)
	}
	return api.Value{}
}

// Put sets the value at a path, and creates documents on the way.
func Put(v api.Value, p []string, x api.Value) (api.Value, api.Errno) {
	if !Valid(p) {
		return api.Value{}, api.ErrPath
	}
	if v.Kind != api.KindDoc || x.Kind == api.KindNone {
		return api.Value{}, api.ErrKind
	}
	result := copied(v)
	at := &result
	for _, step := range p {
		if at = findOrAdd(at, step); at == nil {
			return api.Value{}, api.ErrPath
		}
	}
	*at = copied(x)
	return result, api.OK
}

// Drop removes the value at a path.
func Drop(v api.Value, p []string) api.Value {
	result := copied(v)
	if len(p) == 0 {
		return result
	}
	last := len(p) - 1
	parent := find(&result, p[:last])
	if parent == nil {
		return result
	}
	switch parent.Kind {
	case api.KindDoc:
		if i := fieldIndex(parent.Doc, p[last]); i >= 0 {
			parent.Doc = slices.Delete(parent.Doc, i, i+1)
		}
	case api.KindList:
		if i, ok := Number(p[last]); ok && i < len(parent.List) {
			parent.List[i] = api.Value{Kind: api.KindNull}
		}
	}
	return result
}

// find returns the place of the value at a path, or nil if the path cannot be followed to its end.
func find(v *api.Value, p []string) *api.Value {
	for _, step := range p {
		if v = part(v, step); v == nil {
			return nil
		}
	}
	return v
}

// part returns the place of the field or the element that a step selects, or nil if there is none.
func part(v *api.Value, step string) *api.Value {
	switch v.Kind {
	case api.KindDoc:
		if i := fieldIndex(v.Doc, step); i >= 0 {
			return &v.Doc[i].Value
		}
	case api.KindList:
		if i, ok := Number(step); ok && i < len(v.List) {
			return &v.List[i]
		}
	}
	return nil
}

// findOrAdd returns the place of the field or the element that a step selects. If there is none, it adds an empty document there, to which the next step can add in turn. It returns nil if the step cannot be followed.
func findOrAdd(v *api.Value, step string) *api.Value {
	if at := part(v, step); at != nil {
		return at
	}
	added := api.Value{Kind: api.KindDoc}
	switch v.Kind {
	case api.KindDoc:
		v.Doc = append(v.Doc, api.Field{Name: step, Value: added})
		return &v.Doc[len(v.Doc)-1].Value
	case api.KindList:
		i, ok := Number(step)
		if !ok {
			return nil
		}
		for len(v.List) < i {
			v.List = append(v.List, api.Value{Kind: api.KindNull})
		}
		v.List = append(v.List, added)
		return &v.List[i]
	}
	return nil
}

func fieldIndex(fields []api.Field, name string) int {
	return slices.IndexFunc(fields, func(f api.Field) bool { return f.Name == name })
}

// copied returns a copy of a value at every level: what value.Get returns shares no memory with the document.
func copied(v api.Value) api.Value {
	c, _ := value.Get(api.Value{Kind: api.KindDoc, Doc: []api.Field{{Value: v}}}, "")
	return c
}
