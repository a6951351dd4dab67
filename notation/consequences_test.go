package notation

import (
	"math"
	"math/rand/v2"
	"slices"
	"strconv"
	"strings"
	"testing"
	"unicode/utf8"

	"docstore/api"
	"docstore/sample"
	"docstore/value"
)

// wellFormed follows the definition: names of other forms are replaced by names that are valid in all values.
func wellFormed(v api.Value) bool {
	ok := true
	renamed := renamed(v, &ok)
	return ok && value.Valid(renamed)
}

func renamed(v api.Value, ok *bool) api.Value {
	v.List, v.Doc = slices.Clone(v.List), slices.Clone(v.Doc)
	for i := range v.List {
		v.List[i] = renamed(v.List[i], ok)
	}
	names := map[string]bool{}
	for i, f := range v.Doc {
		plain := strings.IndexFunc(f.Name, func(r rune) bool { return r < 0x20 || r > 0x7e }) < 0
		*ok = *ok && f.Name != "" && len(f.Name) <= 128 && plain && utf8.ValidString(f.Name) && !names[f.Name]
		names[f.Name] = true
		v.Doc[i] = field("n"+strconv.Itoa(i), renamed(f.Value, ok))
	}
	return v
}

// randomText returns bytes that are UTF-8, some of which need escapes.
func randomText(r *rand.Rand) string {
	runes := []rune("ab/\"\\\n\r\t\b\f\x00\x1f \x7f\u0080\u00e9\u20ac\ufffd\uffff\U0001f600")
	b := []rune{}
	for range r.IntN(8) {
		b = append(b, runes[r.IntN(len(runes))])
	}
	return string(b)
}

func randomName(r *rand.Rand) string {
	if r.IntN(3) == 0 {
		return []string{"$id", "$bytes", "$time", "$min", "$max", "$set", "a.b"}[r.IntN(7)]
	}
	b := make([]byte, 1+r.IntN(4))
	for i := range b {
		b[i] = byte(0x20 + r.IntN(0x7f-0x20))
	}
	return string(b)
}

// randomValue returns a well-formed value with at most the given number of levels.
func randomValue(r *rand.Rand, levels int) api.Value {
	kinds := []int{api.KindMin, api.KindNull, api.KindMax, api.KindInt, api.KindBool, api.KindTime, api.KindText, api.KindBytes, api.KindID, api.KindList, api.KindDoc, api.KindList, api.KindDoc}
	v := api.Value{Kind: kinds[r.IntN(len(kinds))]}
	switch v.Kind {
	case api.KindInt:
		v.Int = int(r.Uint64()) >> r.IntN(64)
	case api.KindBool:
		v.Int = r.IntN(2)
	case api.KindTime:
		v.Int = (int(r.Uint64()) & math.MaxInt) >> r.IntN(63)
	case api.KindText:
		v.Text = randomText(r)
	case api.KindBytes:
		v.Text = strings.Repeat("\xff\x00\x9a", r.IntN(4))
	case api.KindID:
		v.Text = strings.Repeat("\x80a\x0f", 4)
	case api.KindList:
		for i := r.IntN(4); i > 0 && levels > 1; i-- {
			v.List = append(v.List, randomValue(r, levels-1))
		}
	case api.KindDoc:
		names := map[string]bool{}
		for i := r.IntN(4); i > 0 && levels > 1; i-- {
			if name := randomName(r); !names[name] {
				names[name] = true
				v.Doc = append(v.Doc, field(name, randomValue(r, levels-1)))
			}
		}
	}
	return v
}

// P5.4: the text of a value is read as the value.
func TestRoundTrip(t *testing.T) {
	r := rand.New(rand.NewPCG(5, 4))
	printed := 0
	for range 20000 {
		v := randomValue(r, 1+r.IntN(5))
		s, errno := Print(v)
		if errno == api.ErrForm { // a document that would be read as a special value
			continue
		}
		if errno != api.OK {
			t.Errorf("Print of %s: error %d", show(v), errno)
		}
		expectParse(t, s, v)
		printed++
	}
	if printed < 15000 {
		t.Errorf("only %d values have texts", printed)
	}
}

// expectStable checks that what Parse accepts is well-formed, and that its text is read as the same value. What it refuses, it refuses whatever is behind the error.
func expectStable(t *testing.T, s string) {
	t.Helper()
	v, at, errno := Parse(s)
	if errno == api.OK {
		printed, e := Print(v)
		if !wellFormed(v) || at != 0 || e != api.OK {
			t.Errorf("Parse of %q: %s, %d; Print returns error %d", brief(s), show(v), at, e)
		}
		expectParse(t, printed, v)
		return
	}
	if !identical(v, api.Value{}) || at < 0 || at > len(s) || errno != api.ErrForm && errno != api.ErrLimit {
		t.Errorf("Parse of %q: %s, %d, error %d", brief(s), show(v), at, errno)
	}
	for i := range len(s) {
		_, n, e := Parse(s[:i])
		if e != api.OK && (n != at || e != errno) && (n != i || e != api.ErrForm) {
			t.Errorf("Parse of the first %d bytes of %q: %d, error %d; of all of them: %d, error %d", i, brief(s), n, e, at, errno)
		}
	}
}

// P5.5: texts of which some bytes are changed, dropped, added or doubled; P5.3: their errors are where the grammar says.
func TestChangedTexts(t *testing.T) {
	const bytes = `"\/bfnrtu0123456789abcdefD{}[]:,- $` + "\n\t\x00\x1f\x7f\x80\xc3\xa9\xff"
	whole := wholeText()
	pool := append(writtenPool(), nearlySpecial()...)
	r := rand.New(rand.NewPCG(5, 5))
	for range 20000 {
		b := []byte(pool[r.IntN(len(pool))].s)
		for i := r.IntN(len(b)); i < len(b); i += 1 + r.IntN(40) {
			switch r.IntN(4) {
			case 0:
				b[i] = bytes[r.IntN(len(bytes))]
			case 1:
				b = slices.Insert(b, i, bytes[r.IntN(len(bytes))])
			case 2:
				b = slices.Delete(b, i, i+1)
			case 3:
				b = slices.Insert(b, i, b[i:min(len(b), i+1+r.IntN(12))]...)
			}
		}
		expectStable(t, string(b))
		expectForm(t, whole, string(b), false)
	}
}

// P5.5: short texts with the names of special values.
func TestShortTexts(t *testing.T) {
	tokens := []string{"}", "]", ",", ":", "1", "-1", `"00"`, `"$min"`, "{", "["}
	for _, before := range []string{`{"$min":`, `{"$time":`, `{"$bytes":`, `[{"$max":`, `{"a":{"$id":`, `{"$id":{"$min":1}`} {
		forAll(before, tokens, 4, func(s string) {
			if _, _, errno := Parse(s); errno == api.OK {
				expectStable(t, s)
			}
		})
	}
}

// P5.6: a proper beginning of a printed list, object or string.
func TestBeginnings(t *testing.T) {
	pool := append(writtenPool(), nearlySpecial()...)
	for _, v := range []api.Value{sample.NestedLists(api.MaxDepth, text("x")), sample.NestedDocs(api.MaxDepth, least), sample.Numbered(200), text(strings.Repeat("\u00e9\n", 100)), octets(strings.Repeat("\xff", 100)), sample.Nulls(api.MaxNodes - 1), sample.NestedLists(api.MaxDepth, num(math.MinInt)), list(num(math.MaxInt), num(math.MinInt), boolean(0))} {
		s, errno := Print(v)
		if errno != api.OK {
			t.Fatalf("Print of %s: error %d", show(v), errno)
		}
		pool = append(pool, written{v, s})
	}
	r := rand.New(rand.NewPCG(5, 6))
	for range 2000 {
		v := randomValue(r, 4)
		if s, errno := Print(v); errno == api.OK {
			pool = append(pool, written{v, s})
		}
	}
	for _, c := range pool {
		if !strings.Contains(`[{"`, c.s[:1]) {
			continue
		}
		for n := range len(c.s) {
			expectRefused(t, c.s[:n], n, api.ErrForm)
		}
	}
}
