package codec

import (
	"math"
	"math/rand/v2"
	"slices"
	"strings"
	"testing"
	"unsafe"

	"docstore/api"
	"docstore/sample"
	"docstore/value"
)

// randomValue returns a valid value with at most the given number of levels.
func randomValue(r *rand.Rand, levels int) api.Value {
	kinds := []int{api.KindMin, api.KindNull, api.KindMax, api.KindInt, api.KindBool, api.KindTime, api.KindText, api.KindBytes, api.KindID, api.KindList, api.KindDoc}
	v := api.Value{Kind: kinds[r.IntN(len(kinds))]}
	switch v.Kind {
	case api.KindInt:
		v.Int = int(r.Uint64()) >> r.IntN(64)
	case api.KindBool:
		v.Int = r.IntN(2)
	case api.KindTime:
		v.Int = (int(r.Uint64()) & math.MaxInt) >> r.IntN(63)
	case api.KindText:
		v.Text = strings.Repeat("\u00e9a", r.IntN(40))
	case api.KindBytes:
		v.Text = strings.Repeat("\xff", r.IntN(100))
	case api.KindID:
		v.Text = strings.Repeat("\x80ab", 4)
	case api.KindList:
		for i := 0; i < 4 && levels > 1; i++ {
			v.List = append(v.List, randomValue(r, levels-1))
		}
	case api.KindDoc:
		for i := 0; i < 4 && levels > 1; i++ {
			v.Doc = append(v.Doc, field(strings.Repeat("n", i+1), randomValue(r, levels-1)))
		}
	}
	return v
}

// P2.6: the encoding of a value is decoded as the value.
func TestRoundTrip(t *testing.T) {
	r := rand.New(rand.NewPCG(2, 6))
	for range 3000 {
		v := randomValue(r, 1+r.IntN(4))
		s := encode(t, v)
		expectAccepted(t, s, v)
		if n, errno := Length(v); n != len(s) || errno != api.OK {
			t.Errorf("Length of %s: %d, error %d; expected %d", show(v), n, errno, len(s))
		}
	}
}

// expectStrict checks what holds for every string: what Decode accepts is an encoding, and what is behind the first error, or behind the value, changes nothing.
func expectStrict(t *testing.T, s string) {
	t.Helper()
	v, end, errno := Read(s, 0)
	if errno == api.OK && (!value.Valid(v) || encode(t, v) != s[:end]) || errno != api.OK && (!isZero(v) || end != 0) {
		t.Errorf("Read of %s: %s, %d, error %d", brief(s), show(v), end, errno)
	}
	if d, e := Decode(s); e == api.OK && (errno != api.OK || end != len(s) || !identical(d, v)) || e == api.ErrTrail && (errno != api.OK || end == len(s)) || e != api.OK && e != api.ErrTrail && e != errno {
		t.Errorf("Decode of %s: %s, error %d; Read returned %d, error %d", brief(s), show(d), e, end, errno)
	}
	for i := range len(s) {
		w, n, e := Read(s[:i], 0)
		if e != api.ErrShort && (e != errno || n != end || !identical(w, v)) {
			t.Errorf("Read of the first %d bytes of %s: %s, %d, error %d; of all of them: %s, %d, error %d", i, brief(s), show(w), n, e, show(v), end, errno)
		}
	}
}

// P2.6: short strings of bytes that have a meaning.
func TestStrictOnShortStrings(t *testing.T) {
	const bytes = "\x00\x01\x02\x03\x04\x05\x06\x07\x09\x0a\x0ba\x80\xff"
	var grow func(s string)
	grow = func(s string) {
		expectStrict(t, s)
		for i := 0; i < len(bytes) && len(s) < 4; i++ {
			grow(s + bytes[i:i+1])
		}
	}
	grow("")
}

// P2.6: encodings of which some bytes are changed, dropped or added.
func TestStrictOnChangedEncodings(t *testing.T) {
	r := rand.New(rand.NewPCG(6, 2))
	pool := encodedPool()
	for range 10000 {
		b := []byte(pool[r.IntN(len(pool))].s)
		for i := r.IntN(len(b)); i < len(b); i += 1 + r.IntN(40) {
			switch r.IntN(4) {
			case 0:
				b[i] = byte(r.IntN(256))
			case 1:
				b[i] ^= 1 << r.IntN(8)
			case 2:
				b = slices.Insert(b, i, byte(r.IntN(12)))
			case 3:
				b = slices.Delete(b, i, i+1)
			}
		}
		expectStrict(t, string(b))
	}
}

// P2.7: a proper prefix of an encoding is too short, and no encoding is one of another.
func TestPrefixes(t *testing.T) {
	pool := encodedPool()
	big := doc(field("a", sample.Nulls(500)), field("b", sample.Numbered(300)), field("c", text(strings.Repeat("\u00e9", 100))))
	pool = append(pool, encoded{big, encode(t, big)}, encoded{sample.NestedDocs(api.MaxDepth, doc()), encode(t, sample.NestedDocs(api.MaxDepth, doc()))})
	most := sample.Nulls(api.MaxNodes - 1)
	pool = append(pool, encoded{most, encode(t, most)})
	for i, c := range pool {
		for n := range len(c.s) {
			expectRefused(t, c.s[:n], api.ErrShort)
		}
		for j, d := range pool {
			if i != j && strings.HasPrefix(c.s, d.s) {
				t.Errorf("%s is a prefix of %s", brief(d.s), brief(c.s))
			}
		}
	}
}

// R5: what is decoded shares no memory with the string, with another result or with another part of the same one.
func TestDecodedMemory(t *testing.T) {
	v := doc(field("a", list(doc(field("b", list(num(1), text("text")))), id("0123456789ab"))), field("b", list(octets("bytes"), doc(), list())))
	s := encode(t, v)
	first, _, _ := Read(s, 0)
	second, _ := Decode(s)
	if sample.Shared([]api.Value{first, second}, nil) {
		t.Error("memory occurs twice in the results")
	}
	from := uintptr(unsafe.Pointer(unsafe.StringData(s)))
	for _, part := range append(sample.Texts(first), sample.Texts(second)...) {
		at := uintptr(unsafe.Pointer(unsafe.StringData(part)))
		if part != "" && from <= at && at < from+uintptr(len(s)) {
			t.Errorf("%q lies within the encoding", part)
		}
	}
	sample.Scribble(first)
	if !identical(second, v) {
		t.Error("a change of a result changes another one")
	}
	expectDecode(t, s, v, api.OK)
}

// R5: Length and Encode neither change nor keep their argument.
func TestEncodedMemory(t *testing.T) {
	for _, c := range encodedPool() {
		s := encode(t, c.v)
		Length(c.v)
		sample.Scribble(c.v)
		if s != c.s {
			t.Errorf("a change of the argument changes the encoding %x", s)
		}
	}
	for i, c := range encodedPool() {
		encode(t, c.v)
		Length(c.v)
		if want := encodedPool()[i].v; !identical(c.v, want) {
			t.Errorf("the argument %s became %s", show(want), show(c.v))
		}
	}
}
