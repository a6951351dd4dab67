package value

import (
	"cmp"
	"slices"
	"strings"

	"docstore/api"
)

// Compare compares two values: it returns -1, 0 or 1.
func Compare(a, b api.Value) int {
	if c := cmp.Compare(a.Kind, b.Kind); c != 0 {
		return c
	}
	switch a.Kind {
	case api.KindInt, api.KindBool, api.KindTime:
		return cmp.Compare(a.Int, b.Int)
	case api.KindText, api.KindBytes, api.KindID:
		return strings.Compare(a.Text, b.Text)
	case api.KindList:
		return slices.CompareFunc(a.List, b.List, Compare)
	case api.KindDoc:
		return slices.CompareFunc(a.Doc, b.Doc, compareFields)
	}
	return 0
}

func compareFields(a, b api.Field) int {
	if c := strings.Compare(a.Name, b.Name); c != 0 {
		return c
	}
	return Compare(a.Value, b.Value)
}

// Equal reports whether two values are equal.
func Equal(a, b api.Value) bool {
	return Compare(a, b) == 0
}

// Sort returns the values in ascending order.
func Sort(l []api.Value) []api.Value {
	sorted := cloneList(l)
	slices.SortStableFunc(sorted, Compare)
	return sorted
}
