package expr

import (
	"slices"
	"strings"

	"docstore/api"
	"docstore/value"
)

// calculate returns the result of an operator on integers.
func calculate(op int, operands []api.Value) api.Value {
	n, ok := integers(operands)
	if !ok {
		return null()
	}
	switch op {
	case opSub:
		n[1] = -n[1] // integers wrap around, so that a difference is a sum
		fallthrough
	case opAdd:
		return num(sum(n))
	case opMul:
		return num(product(n))
	}
	if n[1] == 0 {
		return null()
	}
	quotient := divide(n[0], n[1])
	if op == opMod {
		return num(n[0] - n[1]*quotient)
	}
	return num(quotient)
}

// integers returns the numbers that values are, and false if one of them is no integer.
func integers(values []api.Value) ([]int, bool) {
	n := make([]int, len(values))
	for i, v := range values {
		if v.Kind != api.KindInt {
			return nil, false
		}
		n[i] = v.Int
	}
	return n, true
}

func sum(numbers []int) int {
	total := 0
	for _, n := range numbers {
		total += n
	}
	return total
}

func product(numbers []int) int {
	total := 1
	for _, n := range numbers {
		total *= n
	}
	return total
}

// divide returns a quotient rounded down; Go's is rounded towards 0.
func divide(a, b int) int {
	quotient := a / b
	if a%b != 0 && (a < 0) != (b < 0) {
		quotient--
	}
	return quotient
}

func compare(op int, a, b api.Value) api.Value {
	c := value.Compare(a, b)
	switch op {
	case opEq:
		return boolean(c == 0)
	case opNe:
		return boolean(c != 0)
	case opGt:
		return boolean(c > 0)
	case opGe:
		return boolean(c >= 0)
	case opLt:
		return boolean(c < 0)
	case opLe:
		return boolean(c <= 0)
	}
	return num(c) // opCompare
}

// workOnTexts returns the result of an operator on strings.
func workOnTexts(op int, operands []api.Value) api.Value {
	texts := operands
	if op == opSlice {
		texts = operands[:1]
	}
	if !areAll(texts, api.KindText) {
		return null()
	}
	switch op {
	case opConcat:
		return concat(texts)
	case opLower:
		return text(strings.Map(lower, texts[0].Text))
	case opUpper:
		return text(strings.Map(upper, texts[0].Text))
	case opLength:
		return num(len(texts[0].Text))
	}
	return slice(texts[0].Text, operands[1:]) // opSlice
}

func concat(texts []api.Value) api.Value {
	var b strings.Builder
	for _, v := range texts {
		b.WriteString(v.Text)
	}
	return text(b.String())
}

// slice returns a part of a string. The bounds are an offset and the greatest number of bytes.
func slice(s string, bounds []api.Value) api.Value {
	n, ok := integers(bounds)
	if !ok || n[0] < 0 || n[1] < 0 {
		return null()
	}
	s = s[min(n[0], len(s)):]
	return text(strings.Clone(s[:min(n[1], len(s))])) // a part of s would keep all of it in memory
}

// lower returns the small letter of a capital one from A to Z, and other characters as they are.
func lower(r rune) rune {
	if r >= 'A' && r <= 'Z' {
		return r - 'A' + 'a'
	}
	return r
}

// upper returns the capital letter of a small one from a to z, and other characters as they are.
func upper(r rune) rune {
	if r >= 'a' && r <= 'z' {
		return r - 'a' + 'A'
	}
	return r
}

// workOnLists returns the result of an operator on lists.
func workOnLists(op int, operands []api.Value) api.Value {
	lists := operands
	switch op {
	case opAt:
		lists = operands[:1]
	case opIn:
		lists = operands[1:]
	}
	if !areAll(lists, api.KindList) {
		return null()
	}
	switch op {
	case opSize:
		return num(len(lists[0].List))
	case opAt:
		return element(lists[0].List, operands[1])
	case opIn:
		return boolean(contains(lists[0].List, operands[0]))
	case opReverse:
		return list(reversed(lists[0].List))
	case opSum:
		return num(sumOfIntegers(lists[0].List))
	}
	return list(join(lists)) // opJoin
}

// element returns the element with an index, which counts from the end if it is negative.
func element(l []api.Value, index api.Value) api.Value {
	if index.Kind != api.KindInt {
		return null()
	}
	i := index.Int
	if i < 0 {
		i += len(l)
	}
	if i < 0 || i >= len(l) {
		return api.Value{}
	}
	return l[i]
}

func contains(l []api.Value, v api.Value) bool {
	return slices.ContainsFunc(l, func(element api.Value) bool { return value.Equal(element, v) })
}

func reversed(l []api.Value) []api.Value {
	r := slices.Clone(l)
	slices.Reverse(r)
	return r
}

func sumOfIntegers(l []api.Value) int {
	total := 0
	for _, v := range l {
		if v.Kind == api.KindInt {
			total += v.Int
		}
	}
	return total
}

func join(lists []api.Value) []api.Value {
	var joined []api.Value
	for _, l := range lists {
		joined = append(joined, l.List...)
	}
	return joined
}

// merge returns the document with the fields of all documents, each with its last value, at its first place.
func merge(operands []api.Value) api.Value {
	var fields []api.Field
	places := map[string]int{}
	for _, d := range operands {
		if isNullOrMissing(d) {
			continue
		}
		if d.Kind != api.KindDoc {
			return null()
		}
		for _, f := range d.Doc {
			if i, ok := places[f.Name]; ok {
				fields[i] = f
				continue
			}
			places[f.Name] = len(fields)
			fields = append(fields, f)
		}
	}
	return api.Value{Kind: api.KindDoc, Doc: fields}
}
