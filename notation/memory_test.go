package notation

import (
	"strings"
	"testing"
	"unsafe"

	"docstore/api"
	"docstore/sample"
)

// R5: what is parsed shares no memory with the text, with another result or with another part of the same one.
func TestParsedMemory(t *testing.T) {
	v := doc(field("first", list(doc(field("b", list(num(1), text("text"), instant(2)))), id("0123456789ab"))), field("second", list(octets("bytes"), least, doc(), list())), field("third", only("$min", text("1"))))
	s, _ := Print(v)
	s = strings.Clone(s)
	first, _, _ := Parse(s)
	second, _, _ := Parse(s)
	if sample.Shared([]api.Value{first, second}, nil) {
		t.Error("memory occurs twice in the results")
	}
	from := uintptr(unsafe.Pointer(unsafe.StringData(s)))
	for _, part := range append(sample.Texts(first), sample.Texts(second)...) {
		at := uintptr(unsafe.Pointer(unsafe.StringData(part)))
		if part != "" && from <= at && at < from+uintptr(len(s)) {
			t.Errorf("%q lies within the text", part)
		}
	}
	sample.Scribble(first)
	if !identical(second, v) {
		t.Error("a change of a result changes another one")
	}
	expectParse(t, s, v)
}

// R5: Print neither changes nor keeps its argument.
func TestPrintedMemory(t *testing.T) {
	pool, again := writtenPool(), writtenPool()
	for i, c := range pool {
		s, errno := Print(c.v)
		if !identical(c.v, again[i].v) {
			t.Errorf("the argument %s became %s", show(again[i].v), show(c.v))
		}
		sample.Scribble(c.v)
		if s != c.s || errno != api.OK {
			t.Errorf("a change of the argument changes the text %q, error %d", s, errno)
		}
	}
	for _, v := range append(illFormed(), readAsSpecial()...) {
		before := show(v)
		Print(v)
		if show(v) != before {
			t.Errorf("the argument %s became %s", before, show(v))
		}
	}
}
