package ident

import (
	"math"
	"slices"
	"strings"
	"testing"

	"docstore/api"
	"docstore/sample"
	"docstore/value"
)

// triple is a time, a node and a counter.
type triple [3]int

// inRange returns numbers of every size, in ascending order: the limits, and each number of bytes with its least and its greatest number.
func inRange() []int {
	return []int{
		0, 1, 2, 0x7f, 0x80, 0xfe, 0xff, 0x100, 0x101, 0xffff, 0x10000, 0x10001, 0xffffff, 0x1000000, 0x1234567,
		math.MaxInt32, math.MaxInt32 + 1, 0x89abcdef, 0xff000000, 0xfffffeff, math.MaxUint32 - 1, math.MaxUint32,
	}
}

// outOfRange returns numbers next to the limits, numbers whose last 4 bytes are in the range, and the least and the greatest int.
func outOfRange() []int {
	return []int{-1, math.MaxUint32 + 1, -2, math.MaxUint32 + 2, 1 << 33, 1<<40 + 7, -1 << 32, 7 - 1<<40, math.MinInt32, math.MinInt, math.MaxInt, math.MinInt + 1, math.MaxInt - 1}
}

// id returns a value that is an identifier if the text has 12 bytes.
func id(s string) api.Value { return api.Value{Kind: api.KindID, Text: s} }

// made returns the identifier of numbers that have to be in their ranges.
func made(t *testing.T, n triple) api.Value {
	t.Helper()
	v, errno := New(n[0], n[1], n[2])
	if errno != api.OK {
		t.Fatalf("New of %d: error %d", n, errno)
	}
	return v
}

// written is an identifier, its numbers and its text.
type written struct {
	n      triple
	v      api.Value
	digits string
}

// writtenPool returns identifiers with bytes and texts that are written out, in ascending order.
func writtenPool() []written {
	return []written{
		{triple{0, 0, 0}, id("\x00\x00\x00\x00\x00\x00\x00\x00\x00\x00\x00\x00"), "000000000000000000000000"},
		{triple{0, 0, 1}, id("\x00\x00\x00\x00\x00\x00\x00\x00\x00\x00\x00\x01"), "000000000000000000000001"},
		{triple{0, 0, math.MaxUint32}, id("\x00\x00\x00\x00\x00\x00\x00\x00\xff\xff\xff\xff"), "0000000000000000ffffffff"},
		{triple{0, 1, 0}, id("\x00\x00\x00\x00\x00\x00\x00\x01\x00\x00\x00\x00"), "000000000000000100000000"},
		{triple{0, math.MaxUint32, 0}, id("\x00\x00\x00\x00\xff\xff\xff\xff\x00\x00\x00\x00"), "00000000ffffffff00000000"},
		{triple{1, 0, 0}, id("\x00\x00\x00\x01\x00\x00\x00\x00\x00\x00\x00\x00"), "000000010000000000000000"},
		{triple{1, 2, 258}, id("\x00\x00\x00\x01\x00\x00\x00\x02\x00\x00\x01\x02"), "000000010000000200000102"},
		{triple{0x01234567, 0x89abcdef, 0x00ff100a}, id("\x01\x23\x45\x67\x89\xab\xcd\xef\x00\xff\x10\x0a"), "0123456789abcdef00ff100a"},
		{triple{0x30313233, 0x34353637, 0x38396162}, id("0123456789ab"), "303132333435363738396162"},
		{triple{math.MaxInt32, 0x80, 0x7f}, id("\x7f\xff\xff\xff\x00\x00\x00\x80\x00\x00\x00\x7f"), "7fffffff000000800000007f"},
		{triple{math.MaxInt32 + 1, 0x100, 0x10000}, id("\x80\x00\x00\x00\x00\x00\x01\x00\x00\x01\x00\x00"), "800000000000010000010000"},
		{triple{math.MaxUint32, 0, 0}, id("\xff\xff\xff\xff\x00\x00\x00\x00\x00\x00\x00\x00"), "ffffffff0000000000000000"},
		{triple{math.MaxUint32, math.MaxUint32, math.MaxUint32 - 1}, id("\xff\xff\xff\xff\xff\xff\xff\xff\xff\xff\xff\xfe"), "fffffffffffffffffffffffe"},
		{triple{math.MaxUint32, math.MaxUint32, math.MaxUint32}, id("\xff\xff\xff\xff\xff\xff\xff\xff\xff\xff\xff\xff"), "ffffffffffffffffffffffff"},
	}
}

// otherKinds returns values of every other kind, and of kinds that are not listed, also with the bytes of an identifier.
func otherKinds() []api.Value {
	inner := id("0123456789ab")
	l := []api.Value{
		{}, {Kind: api.KindMin}, {Kind: api.KindNull}, {Kind: api.KindMax},
		{Kind: api.KindInt, Int: 12}, {Kind: api.KindBool, Int: 1}, {Kind: api.KindTime, Int: 1},
		{Kind: api.KindText, Text: "000000010000000200000102"}, {Kind: api.KindBytes, Text: "\x00\x01"},
		{Kind: api.KindList}, {Kind: api.KindList, List: []api.Value{inner}},
		{Kind: api.KindDoc}, {Kind: api.KindDoc, Doc: []api.Field{{Name: "_id", Value: inner}}},
	}
	for kind := -1; kind <= api.KindMax+api.KindID; kind++ {
		if kind != api.KindID {
			l = append(l, api.Value{Kind: kind, Text: inner.Text})
		}
	}
	return append(l, api.Value{Kind: math.MinInt, Text: inner.Text}, api.Value{Kind: math.MaxInt, Text: inner.Text})
}

// notValid returns values of KindID that are not valid: with texts of other lengths, and with something in a field that the kind does not use.
func notValid() []api.Value {
	var l []api.Value
	for n := range 32 {
		if n != idBytes {
			l = append(l, id(strings.Repeat("\x00", n)))
		}
	}
	text := "0123456789ab"
	null := api.Value{Kind: api.KindNull}
	return append(l,
		id("000000010000000200000102"), id(strings.Repeat("a", api.MaxText)), id(strings.Repeat("a", api.MaxText+idBytes)),
		id("\u00e9\u00e9\u00e9\u00e9\u00e9\u00e9\u00e9\u00e9\u00e9\u00e9\u00e9\u00e9"), // 12 code points
		api.Value{Kind: api.KindID, Text: text, Int: 1}, api.Value{Kind: api.KindID, Text: text, Int: -1},
		api.Value{Kind: api.KindID, Text: text, Int: math.MinInt}, api.Value{Kind: api.KindID, Text: text, Int: 1 << 32},
		api.Value{Kind: api.KindID, Text: text, List: []api.Value{null}}, api.Value{Kind: api.KindID, Text: text, List: []api.Value{{}}},
		api.Value{Kind: api.KindID, Text: text, List: sample.Nulls(api.MaxNodes + 1).List},
		api.Value{Kind: api.KindID, Text: text, Doc: []api.Field{{Name: "a", Value: null}}}, api.Value{Kind: api.KindID, Text: text, Doc: []api.Field{{}}},
		api.Value{Kind: api.KindID, Text: "", List: []api.Value{id(text)}},
	)
}

// The pools are what their names say.
func TestPools(t *testing.T) {
	if l := inRange(); !slices.IsSorted(l) || l[0] != 0 || l[len(l)-1] != 1<<32-1 {
		t.Errorf("the numbers in the range are %d", l)
	}
	for i, c := range writtenPool() {
		if !value.Valid(c.v) || c.v.Kind != api.KindID {
			t.Errorf("%s is no identifier", sample.Show(c.v))
		}
		if i > 0 && value.Compare(writtenPool()[i-1].v, c.v) >= 0 {
			t.Errorf("%s is not in order", c.digits)
		}
	}
	seen := map[int]bool{}
	for _, v := range otherKinds() {
		seen[v.Kind] = true
	}
	for kind := api.KindNone; kind <= api.KindMax; kind++ {
		if seen[kind] != (kind != api.KindID) {
			t.Errorf("a value of kind %d is among the others: %t", kind, seen[kind])
		}
	}
	for _, v := range notValid() {
		if v.Kind != api.KindID || value.Valid(v) {
			t.Errorf("%s is no invalid value of KindID", sample.Show(v))
		}
	}
}
