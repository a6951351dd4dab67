package keyenc

import (
	"runtime"
	"slices"
	"strings"
	"testing"
	"unsafe"

	"docstore/api"
	"docstore/sample"
)

// liesWithin reports whether a part is memory of a string.
func liesWithin(part, s string) bool {
	at, from := uintptr(unsafe.Pointer(unsafe.StringData(part))), uintptr(unsafe.Pointer(unsafe.StringData(s)))
	return part != "" && from <= at && at < from+uintptr(len(s))
}

// memorySample returns values with lists, documents and strings at several levels. Each call returns new memory.
func memorySample() []api.Value {
	inner := doc(field("a", list(doc(field("b", list(num(1), text("text")))), id("0123456789ab"))))
	return values(inner, missing, list(octets("bytes"), doc(), list(), list(inner, null)), text("t"))
}

var memoryDirections = []bool{false, true, false, true}

// R5: what is decoded shares no memory with the key, with another result or with another part of the same one.
func TestDecodedMemory(t *testing.T) {
	s := encode(t, memorySample(), memoryDirections)
	first, _ := Decode(s, memoryDirections)
	second, _ := Decode(s, memoryDirections)
	if sample.Shared(values(list(first...), list(second...)), nil) {
		t.Error("memory occurs twice in the results")
	}
	for _, part := range append(sample.Texts(list(first...)), sample.Texts(list(second...))...) {
		if liesWithin(part, s) {
			t.Errorf("%q lies within the key", part)
		}
	}
	sample.Scribble(list(first...))
	if !slices.EqualFunc(second, memorySample(), identical) {
		t.Error("a change of a result changes another one")
	}
	expectDecode(t, s, memoryDirections, memorySample(), 0)
}

// R5: Encode and Decode neither change nor keep their arguments.
func TestArgumentsAreUnchanged(t *testing.T) {
	l, desc := memorySample(), slices.Clone(memoryDirections)
	s := encode(t, l, desc)
	decoded, _ := Decode(s, desc)
	if !slices.EqualFunc(l, memorySample(), identical) || !slices.Equal(desc, memoryDirections) {
		t.Errorf("the arguments became %s, %s", show(l), show(desc))
	}
	sample.Scribble(list(l...))
	clear(desc)
	if s != encode(t, memorySample(), memoryDirections) || !slices.EqualFunc(decoded, memorySample(), identical) {
		t.Error("a change of an argument changes a result")
	}
}

// R5: what After returns is no part of its argument.
func TestAfterMemory(t *testing.T) {
	for _, prefix := range []string{"a", "ab", "abc\xff", strings.Repeat("a", 100)} {
		if after, _ := After(prefix); liesWithin(after, prefix) {
			t.Errorf("After of %q lies within it", prefix)
		}
	}
}

// R1: the parts of a value that has too many of them are not kept, since they would take many times the memory of their bytes.
func TestDecodeKeepsFewParts(t *testing.T) {
	for _, s := range []string{
		"\x06" + strings.Repeat("\x01\x06\x00", 1<<20) + "\x00",
		"\x05" + strings.Repeat("\x01\x00\x02", 1<<20) + "\x00",
	} {
		var before, after runtime.MemStats
		runtime.ReadMemStats(&before)
		expectDecode(t, s, directions(false), nil, api.ErrForm)
		runtime.ReadMemStats(&after)
		if used := after.TotalAlloc - before.TotalAlloc; used > uint64(len(s)) {
			t.Errorf("%d bytes of memory were used for a key of %d bytes", used, len(s))
		}
	}
}
