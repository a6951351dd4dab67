// Package sample helps the tests of the layers: it makes values at the limits, shows values whole, and tells which memory they occupy. The program itself does not use it.
package sample

import (
	"strconv"
	"strings"

	"docstore/api"
)

// NestedLists returns a value of the given number of levels: lists around an inner value of one level.
func NestedLists(levels int, inner api.Value) api.Value {
	for range levels - 1 {
		inner = api.Value{Kind: api.KindList, List: []api.Value{inner}}
	}
	return inner
}

// NestedDocs does the same with documents, which have a field a.
func NestedDocs(levels int, inner api.Value) api.Value {
	for range levels - 1 {
		inner = api.Value{Kind: api.KindDoc, Doc: []api.Field{{Name: "a", Value: inner}}}
	}
	return inner
}

// Nulls returns a list of n elements.
func Nulls(n int) api.Value {
	l := make([]api.Value, n)
	for i := range l {
		l[i] = api.Value{Kind: api.KindNull}
	}
	return api.Value{Kind: api.KindList, List: l}
}

// Numbered returns a document of n fields, which have the names f0, f1 and so on and these numbers as values.
func Numbered(n int) api.Value {
	fields := make([]api.Field, n)
	for i := range fields {
		fields[i] = api.Field{Name: "f" + strconv.Itoa(i), Value: api.Value{Kind: api.KindInt, Int: i}}
	}
	return api.Value{Kind: api.KindDoc, Doc: fields}
}

// Show writes every field of the struct at every level, so that values are identical exactly if Show returns the same string for both.
func Show(v api.Value) string {
	var b strings.Builder
	show(&b, v)
	return b.String()
}

func show(b *strings.Builder, v api.Value) {
	b.WriteString("{" + strconv.Itoa(v.Kind) + " " + strconv.Itoa(v.Int) + " " + strconv.Quote(v.Text) + " [")
	for _, e := range v.List {
		show(b, e)
	}
	b.WriteString("] (")
	for _, f := range v.Doc {
		b.WriteString(strconv.Quote(f.Name) + ":")
		show(b, f.Value)
	}
	b.WriteString(")}")
}

// Shared reports whether results share memory: one of them with an argument, with another result, or one part of it with another part.
func Shared(results, args []api.Value) bool {
	used := map[any]bool{}
	for _, arg := range args {
		for _, c := range Cells(arg) {
			used[c] = true
		}
	}
	for _, result := range results {
		for _, c := range Cells(result) {
			if used[c] {
				return true
			}
			used[c] = true
		}
	}
	return false
}

// Cells returns the addresses of all elements and fields within a value, up to the capacities of the slices.
func Cells(v api.Value) []any {
	var l []any
	for i := range v.List[:cap(v.List)] {
		e := &v.List[:cap(v.List)][i]
		l = append(append(l, e), Cells(*e)...)
	}
	for i := range v.Doc[:cap(v.Doc)] {
		f := &v.Doc[:cap(v.Doc)][i]
		l = append(append(l, f), Cells(f.Value)...)
	}
	return l
}

// Texts returns all texts and names within a value.
func Texts(v api.Value) []string {
	l := []string{v.Text}
	for _, e := range v.List {
		l = append(l, Texts(e)...)
	}
	for _, f := range v.Doc {
		l = append(append(l, f.Name), Texts(f.Value)...)
	}
	return l
}

// Scribble overwrites everything within a value.
func Scribble(v api.Value) {
	scribbled := api.Value{Kind: api.KindText, Text: "scribbled"}
	for i := range v.List {
		Scribble(v.List[i])
		v.List[i] = scribbled
	}
	for i := range v.Doc {
		Scribble(v.Doc[i].Value)
		v.Doc[i] = api.Field{Name: "scribbled", Value: scribbled}
	}
}
